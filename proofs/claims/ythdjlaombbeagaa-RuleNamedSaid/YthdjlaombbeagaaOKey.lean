/-
  CONTRACTS: Number, Value, Key (the program's).
-/
import Derived.Test.YthdjlaombbeagaaOVal
namespace Go.Proofs.Ythdjlaombbeagaa
open Go.RowKit

def checkN (k n : Int) (s : ByteArray) : Int := if mayB k n s = true then 0 else 10
theorem ck_no {k n : Int} {s : ByteArray} (h : (!mayB k n s) = true) : 10 = checkN k n s := by
  have : mayB k n s = false := by simpa using h
  unfold checkN; rw [this]; rfl
theorem ck_yes {k n : Int} {s : ByteArray} (h : (!mayB k n s) = false) : 0 = checkN k n s := by
  have : mayB k n s = true := by simpa using h
  unfold checkN; rw [this]; rfl
/-- What Value answers. -/
def ValEnd (W : World) (k n : Int) (s : ByteArray) (e : Ending) (w' : World) : Prop :=
  (mayB k n s = true ∧ (∃ v', e = .returned (.tuple #[v', .int .i64 0]) ∧ OwnB w' W.heap.size v' (valB k n s)) ∧ Below W.heap.size W w') ∨
  (mayB k n s = false ∧ e = .returned (.tuple #[.slice none 0 0, .int .i64 10]) ∧ Below W.heap.size W w')
theorem valEnd_yes {W w' : World} {k n : Int} {s : ByteArray} {v' : Value} (hm : mayB k n s = true) (ho : OwnB w' W.heap.size v' (valB k n s)) (hb : Below W.heap.size W w') : ValEnd W k n s (.returned (.tuple #[v', .int .i64 0])) w' := .inl ⟨hm, ⟨v', rfl, ho⟩, hb⟩
theorem valEnd_no {W w' : World} {k n : Int} {s : ByteArray} (hm : mayB k n s = false) (hb : Below W.heap.size W w') : ValEnd W k n s (.returned (.tuple #[.slice none 0 0, .int .i64 10])) w' := .inr ⟨hm, rfl, hb⟩

end Go.Proofs.Ythdjlaombbeagaa
