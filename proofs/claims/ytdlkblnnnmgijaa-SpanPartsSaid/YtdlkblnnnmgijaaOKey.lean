/-
  CONTRACTS: Number, Value, Key (the program's).
-/
import Derived.Test.YtdlkblnnnmgijaaOVal
namespace Go.Proofs.Ytdlkblnnnmgijaa
open Go.RowKit

def checkN (k n : Int) (s : ByteArray) : Int := if mayB k n s = true then 0 else 10
theorem ck_no {k n : Int} {s : ByteArray} (h : (!mayB k n s) = true) : 10 = checkN k n s := by
  have : mayB k n s = false := by simpa using h
  unfold checkN; rw [this]; rfl
theorem ck_yes {k n : Int} {s : ByteArray} (h : (!mayB k n s) = false) : 0 = checkN k n s := by
  have : mayB k n s = true := by simpa using h
  unfold checkN; rw [this]; rfl
set_option maxHeartbeats 400000 in
theorem check_any (k n : Int) (s : ByteArray) (w : World) (hs : s.size ≤ maxLen) :
    Calls Try.prog 52 #[.agg #[.int .i64 k, .int .i64 n, .string s]] w fun e w' => e = .returned (.int .i64 (checkN k n s)) ∧ Below w.heap.size w w' := by
  go_enter Try.func52, Try.ntmps52
  go_wp2_with (go_at_call 80; refine (mayBe_any _ _ _ _ (by assumption)).mono ?_; rintro e w' ⟨rfl, hb⟩)
  all_goals go_ret
  all_goals refine ⟨ret_i64 ?_, ((Below.refl _ _).alloc (Nat.le_refl _) _).trans (hb.mono (by simp))⟩
  · exact ck_no ‹_›
  · exact ck_yes ‹_›
theorem check_yes {k n : Int} {s : ByteArray} (w : World) (hs : s.size ≤ maxLen) (hm : mayB k n s = true) :
    Calls Try.prog 52 #[.agg #[.int .i64 k, .int .i64 n, .string s]] w fun e w' => e = .returned (.int .i64 0) ∧ Below w.heap.size w w' :=
  (check_any k n s w hs).mono fun e w' ⟨h, hb⟩ => ⟨by rw [h]; unfold checkN; rw [if_pos hm], hb⟩
theorem check_no {k n : Int} {s : ByteArray} (w : World) (hs : s.size ≤ maxLen) (hm : mayB k n s = false) :
    Calls Try.prog 52 #[.agg #[.int .i64 k, .int .i64 n, .string s]] w fun e w' => e = .returned (.int .i64 10) ∧ Below w.heap.size w w' :=
  (check_any k n s w hs).mono fun e w' ⟨h, hb⟩ => ⟨by rw [h]; unfold checkN; rw [hm]; rfl, hb⟩

/-- What Value answers. -/
def ValEnd (W : World) (k n : Int) (s : ByteArray) (e : Ending) (w' : World) : Prop :=
  (mayB k n s = true ∧ (∃ v', e = .returned (.tuple #[v', .int .i64 0]) ∧ OwnB w' W.heap.size v' (valB k n s)) ∧ Below W.heap.size W w') ∨
  (mayB k n s = false ∧ e = .returned (.tuple #[.slice none 0 0, .int .i64 10]) ∧ Below W.heap.size W w')
theorem valEnd_yes {W w' : World} {k n : Int} {s : ByteArray} {v' : Value} (hm : mayB k n s = true) (ho : OwnB w' W.heap.size v' (valB k n s)) (hb : Below W.heap.size W w') : ValEnd W k n s (.returned (.tuple #[v', .int .i64 0])) w' := .inl ⟨hm, ⟨v', rfl, ho⟩, hb⟩
theorem valEnd_no {W w' : World} {k n : Int} {s : ByteArray} (hm : mayB k n s = false) (hb : Below W.heap.size W w') : ValEnd W k n s (.returned (.tuple #[.slice none 0 0, .int .i64 10])) w' := .inr ⟨hm, rfl, hb⟩

set_option maxRecDepth 100000 in
set_option maxHeartbeats 1000000 in
theorem value_any (k n : Int) (s : ByteArray) (W : World) (hs : s.size ≤ 5000) (h0 : -9223372036854775808 ≤ n) (h1 : n ≤ 9223372036854775807) :
    Calls Try.prog 20 #[.agg #[.int .i64 k, .int .i64 n, .string s]] W (ValEnd W k n s) := by
  have hsx : s.size ≤ maxLen := by unfold maxLen; omega
  cases hm : mayB k n s
  · have HM := Lib.hid hm
    clear hm
    go_enter Try.func20, Try.ntmps20
    go_wp2_with fail
    refine (check_no _ hsx HM.out).mono ?_
    rintro e w1 ⟨rfl, hb⟩
    have HB := Lib.hid (((Below.refl _ W).alloc (Nat.le_refl _) (.cells #[.int .i64 k, .int .i64 n, .string s] 24)).trans (hb.mono (by simp)))
    clear hb
    go_wp2
    go_ret2
    exact valEnd_no HM.out HB.out
  · have HM := Lib.hid hm
    clear hm
    have HV := Lib.hid (valAt_new W k n s)
    go_enter Try.func20, Try.ntmps20
    go_wp2_with fail
    refine (check_yes _ hsx HM.out).mono ?_
    rintro e w1 ⟨rfl, hb⟩
    have HB := Lib.hid (((Below.refl _ W).alloc (Nat.le_refl _) (.cells #[.int .i64 k, .int .i64 n, .string s] 24)).trans (hb.mono (by simp)))
    have hv := HV.out.next hb (by simp)
    have c0 := hv.c0
    have c1 := hv.c1
    have c2 := hv.c2
    clear hb hv
    go_wp2_with fail
    refine (appendValue_any W.heap.size _ [] k n s _ (ownB_nil _ _) (by simp) HB.out.size hs h0 h1 HM.out).mono ?_
    rintro e w2 ⟨v2, rfl, ho2, hb2⟩
    have HO := Lib.hid ho2
    have HB2 := Lib.hid (HB.out.trans hb2)
    clear ho2 hb2 c0 c1 c2
    go_wp2
    go_ret2
    exact valEnd_yes HM.out HO.out HB2.out

/-- What Number answers: eight cells of a new array. -/
def NumEnd (W : World) (n : Int) (e : Ending) (w' : World) : Prop := ∃ g, e = .returned (.slice (some ⟨g, 0, none⟩) 8 8) ∧ w'.heap[g]? = some (.cells (cellsL (numB n)).toArray 79 (0, 0)) ∧ W.heap.size ≤ g ∧ Below W.heap.size W w'
theorem numEnd_mk {W w' : World} {n : Int} {g : Nat} (h : w'.heap[g]? = some (.cells (cellsL (numB n)).toArray 79 (0, 0))) (hg : W.heap.size ≤ g) (hb : Below W.heap.size W w') : NumEnd W n (.returned (.slice (some ⟨g, 0, none⟩) 8 8)) w' := ⟨g, rfl, h, hg, hb⟩

set_option maxRecDepth 100000 in
set_option maxHeartbeats 1000000 in
theorem number_any (n : Int) (W : World) (h0 : -9223372036854775808 ≤ n) (h1 : n ≤ 9223372036854775807) :
    Calls Try.prog 22 #[.int .i64 n] W (NumEnd W n) := by
  obtain ⟨c0, c1, c2, c3, c4, c5, c6, c7, hc⟩ : ∃ c0 c1 c2 c3 c4 c5 c6 c7 : UInt8, numB n = [c0, c1, c2, c3, c4, c5, c6, c7] := ⟨_, _, _, _, _, _, _, _, rfl⟩
  have HC := Lib.hid hc
  have h8 := fun W => eight_any n h0 h1 W
  rw [hc] at h8
  simp only [List.map_cons, List.map_nil] at h8
  have H8 := Lib.hid h8
  clear hc h8
  go_enter Try.func22, Try.ntmps22
  go_wp2_with fail
  refine (H8.out _).mono ?_
  rintro e w1 ⟨rfl, hb1⟩
  have HB1 := Lib.hid hb1
  clear hb1
  go_wp2
  go_ret
  refine numEnd_mk (by rw [HC.out]; exact heap_alloc_new w1 _) HB1.out.size (HB1.out.alloc HB1.out.size _)

end Go.Proofs.Ytdlkblnnnmgijaa
