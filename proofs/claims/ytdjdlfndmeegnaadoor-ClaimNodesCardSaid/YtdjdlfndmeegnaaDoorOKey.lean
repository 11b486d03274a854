/-
  CONTRACTS: Number, Value, Key (the program's).
-/
import Derived.Test.YtdjdlfndmeegnaaDoorOVal
namespace Go.Proofs.YtdjdlfndmeegnaaDoor
open Go.RowKit

def checkN (k n : Int) (s : ByteArray) : Int := if mayB k n s = true then 0 else 10
theorem ck_no {k n : Int} {s : ByteArray} (h : (!mayB k n s) = true) : 10 = checkN k n s := by
  have : mayB k n s = false := by simpa using h
  unfold checkN; rw [this]; rfl
theorem ck_yes {k n : Int} {s : ByteArray} (h : (!mayB k n s) = false) : 0 = checkN k n s := by
  have : mayB k n s = true := by simpa using h
  unfold checkN; rw [this]; rfl
set_option maxHeartbeats 400000 in
theorem check_any (k n : Int) (s : ByteArray) (w : World) (hs : s.size ≤ maxLen) :
    Calls Tryd.prog 63 #[.agg #[.int .i64 k, .int .i64 n, .string s]] w fun e w' => e = .returned (.int .i64 (checkN k n s)) ∧ Below w.heap.size w w' := by
  go_enter Tryd.func63, Tryd.ntmps63
  go_wp2_with (go_at_call 73; refine (mayBe_any _ _ _ _ (by assumption)).mono ?_; rintro e w' ⟨rfl, hb⟩)
  all_goals go_ret
  all_goals refine ⟨ret_i64 ?_, ((Below.refl _ _).alloc (Nat.le_refl _) _).trans (hb.mono (by simp))⟩
  · exact ck_no ‹_›
  · exact ck_yes ‹_›
theorem check_yes {k n : Int} {s : ByteArray} (w : World) (hs : s.size ≤ maxLen) (hm : mayB k n s = true) :
    Calls Tryd.prog 63 #[.agg #[.int .i64 k, .int .i64 n, .string s]] w fun e w' => e = .returned (.int .i64 0) ∧ Below w.heap.size w w' :=
  (check_any k n s w hs).mono fun e w' ⟨h, hb⟩ => ⟨by rw [h]; unfold checkN; rw [if_pos hm], hb⟩
theorem check_no {k n : Int} {s : ByteArray} (w : World) (hs : s.size ≤ maxLen) (hm : mayB k n s = false) :
    Calls Tryd.prog 63 #[.agg #[.int .i64 k, .int .i64 n, .string s]] w fun e w' => e = .returned (.int .i64 10) ∧ Below w.heap.size w w' :=
  (check_any k n s w hs).mono fun e w' ⟨h, hb⟩ => ⟨by rw [h]; unfold checkN; rw [hm]; rfl, hb⟩

/-- What Value answers. -/
def ValEnd (W : World) (k n : Int) (s : ByteArray) (e : Ending) (w' : World) : Prop :=
  (mayB k n s = true ∧ (∃ v', e = .returned (.tuple #[v', .int .i64 0]) ∧ OwnB w' W.heap.size v' (valB k n s)) ∧ Below W.heap.size W w') ∨
  (mayB k n s = false ∧ e = .returned (.tuple #[.slice none 0 0, .int .i64 10]) ∧ Below W.heap.size W w')
theorem valEnd_yes {W w' : World} {k n : Int} {s : ByteArray} {v' : Value} (hm : mayB k n s = true) (ho : OwnB w' W.heap.size v' (valB k n s)) (hb : Below W.heap.size W w') : ValEnd W k n s (.returned (.tuple #[v', .int .i64 0])) w' := .inl ⟨hm, ⟨v', rfl, ho⟩, hb⟩
theorem valEnd_no {W w' : World} {k n : Int} {s : ByteArray} (hm : mayB k n s = false) (hb : Below W.heap.size W w') : ValEnd W k n s (.returned (.tuple #[.slice none 0 0, .int .i64 10])) w' := .inr ⟨hm, rfl, hb⟩

end Go.Proofs.YtdjdlfndmeegnaaDoor
