/-
  CONTRACT of Parse.
-/
import Derived.Test.YtpnjolacmkcofaaDoorSpells
namespace Go.Proofs.YtpnjolacmkcofaaDoor
open Go.RowKit Go.Shelf

/-- What Parse answers. -/
def ParseEnds (l : List UInt8) (e : Ending) : Prop :=
  (∃ (k n : Int) (t : ByteArray), e = .returned (.tuple #[.agg #[.int .i64 k, .int .i64 n, .string t], .int .i64 0]) ∧ mayB k n t = true ∧ inI64 n ∧ t.size ≤ maxLen ∧ txtL k n t = l ∧ ∀ (k' n' : Int) (t' : ByteArray), mayB k' n' t' = true → inI64 n' → txtL k' n' t' = l → k = k' ∧ n = n' ∧ t = t') ∨
  (e = .returned (.tuple #[.agg #[.int .i64 0, .int .i64 0, .string ⟨#[]⟩], .int .i64 11]) ∧ ∀ (k n : Int) (t : ByteArray), mayB k n t = true → inI64 n → txtL k n t ≠ l)

theorem txt_short (k n : Int) (s : ByteArray) (hm : mayB k n s = true) (h0 : -9223372036854775808 ≤ n) (h1 : n ≤ 9223372036854775807) : (txtL k n s).length ≤ 3002 := by
  have hl : s.data.toList.length = s.size := Array.length_toList
  have hi := itoa_len n h0 h1
  have hh := flatL_len hexL hexL_len s.data.toList
  have he := flatL_len escL escL_len s.data.toList
  have hb : (boolL (n == 1)).length ≤ 5 := by cases (n == 1) <;> decide
  unfold mayB at hm
  unfold txtL
  by_cases k1 : k = 1
  · rw [if_pos k1]; omega
  by_cases k2 : k = 2
  · rw [if_neg k1, if_pos k2]; omega
  by_cases k3 : k = 3
  · rw [if_neg (by omega), if_neg k2, if_pos (by omega)] at hm
    simp at hm
    rw [if_neg k1, if_neg k2, if_pos k3]
    simp only [List.length_append, List.length_cons, List.length_nil]; omega
  by_cases k4 : k = 4
  · rw [if_neg (by omega), if_neg k2, if_pos (by omega)] at hm
    simp at hm
    rw [if_neg k1, if_neg k2, if_neg k3, if_pos k4]
    simp only [List.length_append, List.length_cons, List.length_nil]; omega
  by_cases k5 : k = 5
  · rw [if_neg k1, if_neg k2, if_neg k3, if_neg k4, if_pos k5, List.length_cons]; omega
  by_cases k6 : k = 6
  · rw [if_neg k1, if_neg k2, if_neg k3, if_neg k4, if_neg k5, if_pos k6, List.length_cons]; omega
  by_cases k7 : k = 7
  · rw [if_neg (by omega), if_neg k2, if_neg (by omega), if_neg k5, if_pos k7] at hm
    simp at hm
    have := word_size hm.2
    rw [if_neg k1, if_neg k2, if_neg k3, if_neg k4, if_neg k5, if_neg k6, if_pos k7, List.length_cons]; omega
  · rw [if_neg k1, if_neg k2, if_neg k3, if_neg k4, if_neg k5, if_neg k6, if_neg k7]; simp

theorem parse_no {l : List UInt8} (h : ∀ (k n : Int) (t : ByteArray), mayB k n t = true → inI64 n → txtL k n t ≠ l) : ParseEnds l (.returned (.tuple #[.agg #[.int .i64 0, .int .i64 0, .string ⟨#[]⟩], .int .i64 11])) := .inr ⟨rfl, h⟩

/-- v's own block lies. -/
structure Holds3 (b : Nat) (k n : Int) (t : ByteArray) (W : World) : Prop where
  c0 : W.cell? ⟨b, 0, none⟩ = some (.int .i64 k)
  c1 : W.cell? ⟨b, 1, none⟩ = some (.int .i64 n)
  c2 : W.cell? ⟨b, 2, none⟩ = some (.string t)
theorem Holds3.next {b : Nat} {k n : Int} {t : ByteArray} {W W' : World} (h : Holds3 b k n t W) {B : Nat} (hb : Below B W W') (hB : b < B) : Holds3 b k n t W' :=
  ⟨(hb.cell (p := ⟨b, 0, none⟩) hB).trans h.c0, (hb.cell (p := ⟨b, 1, none⟩) hB).trans h.c1, (hb.cell (p := ⟨b, 2, none⟩) hB).trans h.c2⟩
theorem holds3_new (W : World) (k n : Int) (t : ByteArray) (T : TypeId) : Holds3 W.heap.size k n t (W.alloc (.cells #[.int .i64 k, .int .i64 n, .string t] T)) := ⟨by go_simp, by go_simp, by go_simp⟩

set_option maxRecDepth 100000 in
set_option maxHeartbeats 4000000 in
theorem parse_any (s : ByteArray) (w : World) (hs : s.size ≤ maxLen) (herr : Errs w) (htab : Tab w) :
    Calls Tryd.prog 9 #[.string s] w fun e w' => ParseEnds s.data.toList e ∧ Below w.heap.size w w' := by
  have HE := Lib.hid herr
  have HT := Lib.hid htab
  have HM := Lib.hid hs
  have r0 := res_new w 23
  clear herr htab hs
  have hsz : s.data.toList.length = s.size := Array.length_toList
  have HSZ := Lib.hid hsz
  clear hsz
  by_cases hx : s.size ≤ 3002
  · have hx1 : ¬ (3002 < (s.size : Int)) := by omega
    have R0 := Lib.hid r0
    clear r0
    go_enter Tryd.func9, Tryd.ntmps9
    go_wp2_with fail
    refine (read_any s _ (by omega) (errs_below HE.out R0.out.low)).mono ?_
    rintro e w2 ⟨⟨k, n, t, ok, rfl, hq1, hq2⟩, hb2⟩
    have HQ1 := Lib.hid hq1
    have HQ2 := Lib.hid hq2
    have hR2 : Res w w2 := R0.out.next hb2 (by simp)
    clear hq1 hq2 hb2
    cases ok
    · have HN : Hid (∀ (k n : Int) (t : ByteArray), mayB k n t = true → inI64 n → txtL k n t ≠ s.data.toList) := fun k n t h1 h2 h3 => by
        have := (HQ2.out k n t h1 h2 h3).2.2.2
        cases this
      have R2 := Lib.hid (hR2.next (((Below.refl _ w2).alloc (Nat.le_refl _) (.cells #[.int .i64 k, .int .i64 n, .string t] 23))) hR2.size)
      have e0 := R2.out.c0
      have e1 := R2.out.c1
      have e2 := R2.out.c2
      have f0 := R2.out.f0
      have f1 := R2.out.f1
      have f2 := R2.out.f2
      clear hR2
      go_wp2
      refine bodyPost_ret (v := .tuple #[.agg #[.int .i64 0, .int .i64 0, .string ⟨#[]⟩], .int .i64 11]) ?_ rfl ⟨parse_no HN.out, res_out R2.out⟩
      rw [results_cell_tmp rfl]; go_simp
    · obtain ⟨hn, ht⟩ := HQ1.out rfl
      have HN := Lib.hid hn
      have HH := Lib.hid (holds3_new w2 k n t 23)
      have R2 := Lib.hid (hR2.next (((Below.refl _ w2).alloc (Nat.le_refl _) (.cells #[.int .i64 k, .int .i64 n, .string t] 23))) hR2.size)
      clear hR2 hn
      go_wp2_with fail
      refine (mayBe_any k n t _ ht).mono ?_
      rintro e w3 ⟨rfl, hb3⟩
      have HH3 := Lib.hid (HH.out.next hb3 (by simp))
      have R3 := Lib.hid (R2.out.next hb3 R2.out.size)
      have hz3 : w2.heap.size < w3.heap.size := by have := hb3.size; simp at this; omega
      have HZ3 := Lib.hid hz3
      clear hz3
      obtain ⟨b, hb⟩ : ∃ b, mayB k n t = b := ⟨_, rfl⟩
      rw [hb]
      have HB := Lib.hid hb
      clear hb hb3 HH R2
      have g0 := HH3.out.c0
      have g1 := HH3.out.c1
      have g2 := HH3.out.c2
      cases b
      · have HO : Hid (∀ (k n : Int) (t : ByteArray), mayB k n t = true → inI64 n → txtL k n t ≠ s.data.toList) := fun k' n' t' h1 h2 h3 => by
          obtain ⟨rfl, rfl, rfl, _⟩ := HQ2.out k' n' t' h1 h2 h3
          have := HB.out
          rw [h1] at this
          cases this
        have e0 := R3.out.c0
        have e1 := R3.out.c1
        have e2 := R3.out.c2
        have f0 := R3.out.f0
        have f1 := R3.out.f1
        have f2 := R3.out.f2
        go_wp2
        refine bodyPost_ret (v := .tuple #[.agg #[.int .i64 0, .int .i64 0, .string ⟨#[]⟩], .int .i64 11]) ?_ rfl ⟨parse_no HO.out, res_out R3.out⟩
        rw [results_cell_tmp rfl]; go_simp
      · go_wp2_with fail
        refine ((callsIn_wide (n := 9)).1 (spells_any 9 (Nat.le_of_ble_eq_true rfl) k n t s w3 (by omega) HN.out.1 HN.out.2 HB.out (tab_below HT.out R3.out.low))).mono ?_
        rintro e w4 ⟨rfl, hb4⟩
        have HH4 := Lib.hid (HH3.out.next hb4 HZ3.out)
        have R4 := Lib.hid (R3.out.next hb4 R3.out.size)
        clear hb4 g0 g1 g2
        have g0 := HH4.out.c0
        have g1 := HH4.out.c1
        have g2 := HH4.out.c2
        have e0 := R4.out.c0
        have e1 := R4.out.c1
        have e2 := R4.out.c2
        have f0 := R4.out.f0
        have f1 := R4.out.f1
        have f2 := R4.out.f2
        by_cases hq : txtL k n t = s.data.toList
        · have HO : Hid (ParseEnds s.data.toList (.returned (.tuple #[.agg #[.int .i64 k, .int .i64 n, .string t], .int .i64 0]))) := .inl ⟨k, n, t, rfl, HB.out, HN.out, ht, hq, fun k' n' t' a b c => by obtain ⟨h1, h2, h3, _⟩ := HQ2.out k' n' t' a b c; exact ⟨h1, h2, h3⟩⟩
          have hd : decide (txtL k n t = s.data.toList) = true := by simpa using hq
          rw [hd]
          clear hq hd
          go_wp2
          refine bodyPost_ret (v := .tuple #[.agg #[.int .i64 k, .int .i64 n, .string t], .int .i64 0]) ?_ rfl ⟨HO.out, res_out R4.out⟩
          rw [results_cell_tmp rfl]; go_simp
        · have HO : Hid (∀ (k n : Int) (t : ByteArray), mayB k n t = true → inI64 n → txtL k n t ≠ s.data.toList) := fun k' n' t' h1 h2 h3 => by
            obtain ⟨rfl, rfl, rfl, _⟩ := HQ2.out k' n' t' h1 h2 h3
            exact hq h3
          have hd : decide (txtL k n t = s.data.toList) = false := by simpa using hq
          rw [hd]
          clear hq hd
          go_wp2
          refine bodyPost_ret (v := .tuple #[.agg #[.int .i64 0, .int .i64 0, .string ⟨#[]⟩], .int .i64 11]) ?_ rfl ⟨parse_no HO.out, res_out R4.out⟩
          rw [results_cell_tmp rfl]; go_simp
  · have hx1 : 3002 < (s.size : Int) := by omega
    have HN : Hid (∀ (k n : Int) (t : ByteArray), mayB k n t = true → inI64 n → txtL k n t ≠ s.data.toList) := fun k n t h1 h2 h3 => by
      have := txt_short k n t h1 h2.1 h2.2
      rw [h3, HSZ.out] at this
      omega
    have R0 := Lib.hid r0.low
    clear r0
    go_enter Tryd.func9, Tryd.ntmps9
    go_wp2
    refine bodyPost_ret (v := .tuple #[.agg #[.int .i64 0, .int .i64 0, .string ⟨#[]⟩], .int .i64 11]) ?_ rfl ⟨parse_no HN.out, R0.out⟩
    rw [results_cell_tmp rfl]; go_simp

end Go.Proofs.YtpnjolacmkcofaaDoor
