/-
  CONTRACTS: told's value hands on what two sets have; told.
-/
import Derived.Test.YtecolajhahmfcaaDoorSTold
namespace Go.Proofs.YtecolajhahmfcaaDoor
open Go.RowKit Go.Shelf

set_option maxHeartbeats 400000 in
theorem adderOf_any (Bs : Nat) (w : World) :
    Calls Tryd.prog 32 #[.pointer (some ⟨Bs, 0, none⟩)] w fun e w' => e = .returned (.func (.func 46) #[] #[.pointer (some ⟨w.heap.size, 0, none⟩)]) ∧ w' = w.alloc (.cells #[.pointer (some ⟨Bs, 0, none⟩)] 66) := by
  go_enter Tryd.func32, Tryd.ntmps32
  go_wp2
  go_ret
  exact ⟨rfl, rfl⟩
/-- which owners are wanted -/
def wantsOr (_ : Nat) : Bool := true
def wantsAnd (n : Nat) : Bool := n == 3
def wantsMinus (n : Nat) : Bool := n == 1
end Go.Proofs.YtecolajhahmfcaaDoor
