/- Contracts of library functions at this program, laid by the tool. -/
import Derived.Shelf.Spec.BitsCarry
import Derived.Ground.Names7Prog
import Derived.Test.YtofmfainhflmmaaProg
namespace Go.Proofs
open Go.Shelf
def Try.addL_ren : Go.Shelf.Ren := ⟨fun | 25 => 81 | n => n, fun | 22 => 64 | n => n, fun | n => n⟩
theorem Try.addL : Go.Proofs.Lays7.n25 Try.prog Try.addL_ren := {
  mixed := by kernel_rfl
  f25 := Try.func81.trans (congrArg some (by kernel_rfl))
  t22 := Try.underlying64
  a22 := Try.isAgg64
  z22 := Try.sizeOf64
  v22 := Try.zeroValue64
  i22 := by kernel_rfl }
end Go.Proofs
