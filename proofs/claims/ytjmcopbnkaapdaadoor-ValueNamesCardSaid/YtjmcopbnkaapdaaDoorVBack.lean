/-
  THE LAW ValueBack: its walk.
-/
import Derived.Test.YtjmcopbnkaapdaaDoorParse
import Derived.Test.YtjmcopbnkaapdaaDoorVOrder
namespace Go.Proofs.YtjmcopbnkaapdaaDoor
open Go.RowKit Go.Shelf

theorem box3_low {w W : World} {x y z : Value} (t : TypeId) (h : Below w.heap.size (w.alloc (.cells #[x, y, z] t)) W) : Below w.heap.size w W := ((Below.refl _ _).alloc (Nat.le_refl _) _).trans h

def checkN (k n : Int) (s : ByteArray) : Int := if mayB k n s = true then 0 else 10

theorem ck_no {k n : Int} {s : ByteArray} (h : (!mayB k n s) = true) : 10 = checkN k n s := by
  have : mayB k n s = false := by simpa using h
  unfold checkN; rw [this]; rfl
theorem ck_yes {k n : Int} {s : ByteArray} (h : (!mayB k n s) = false) : 0 = checkN k n s := by
  have : mayB k n s = true := by simpa using h
  unfold checkN; rw [this]; rfl

set_option maxHeartbeats 400000 in
theorem check_any (k n : Int) (s : ByteArray) (w : World) (hs : s.size ≤ maxLen) :
    Calls Tryd.prog 13 #[.agg #[.int .i64 k, .int .i64 n, .string s]] w fun e w' => e = .returned (.int .i64 (checkN k n s)) ∧ Below w.heap.size w w' := by
  go_enter Tryd.func13, Tryd.ntmps13
  go_wp2_with (go_at_call 15; refine (mayBe_any _ _ _ _ (by assumption)).mono ?_; rintro e w' ⟨rfl, hb⟩)
  all_goals go_ret
  all_goals refine ⟨ret_i64 ?_, ((Below.refl _ _).alloc (Nat.le_refl _) _).trans (hb.mono (by simp))⟩
  · exact ck_no ‹_›
  · exact ck_yes ‹_›

theorem neV (k n : Int) (s : ByteArray) (w : World) : (Op.equalIn 10000 23 (.agg #[.int .i64 k, .int .i64 n, .string s]) (.agg #[.int .i64 k, .int .i64 n, .string s])).run Tryd.prog w = .ok true w := by
  have u3 := Tryd.underlying3
  have u2 := Tryd.underlying2
  have u9 := Tryd.underlying9
  have a3 := Tryd.isAgg3
  have a2 := Tryd.isAgg2
  have a9 := Tryd.isAgg9
  have hS : Tryd.prog.underlying 23 = some (.struct (Tryd.prog.fieldsOf 23)) := by kernel_rfl
  have hp : Tryd.prog.stoodInHeld 23 = false := by kernel_rfl
  rw [show (10000 : Nat) = 9999 + 1 from rfl, run_equalIn_agg w 9999 23 _ _ hS hp]
  simp only [Program.fieldsOf, Tryd.underlying23]
  go_simp

set_option maxRecDepth 100000 in
set_option maxHeartbeats 4000000 in
theorem back_any (k n : Int) (t s : ByteArray) (w : World) (hn : inI64 n) (herr : Errs w) (htab : Tab w) :
    Calls Tryd.prog 5 #[.agg #[.int .i64 k, .int .i64 n, .string t], .string s] w fun e w' => e = .returned (.bool true) ∧ Below w.heap.size w w' := by
  have HE := Lib.hid herr
  have HT := Lib.hid htab
  have HN := Lib.hid hn
  have hB0 : Below w.heap.size w (w.alloc (.cells #[.int .i64 k, .int .i64 n, .string t] 23)) := (Below.refl _ _).alloc (Nat.le_refl _) _
  have HB0 := Lib.hid hB0
  have HV0 := Lib.hid (box3_new w (.int .i64 k) (.int .i64 n) (.string t) 23)
  clear herr htab hn hB0
  go_enter Tryd.func5, Tryd.ntmps5
  go_wp2_with fail
  refine (alive_any _ (tab_below HT.out HB0.out)).mono ?_
  rintro e w1 ⟨rfl, hb1⟩
  have HV1 := Lib.hid (HV0.out.next hb1 (by simp))
  have HB1 := Lib.hid (HB0.out.trans (hb1.mono (by simp)))
  have HZ1 : Hid (w.heap.size < w1.heap.size) := by
    show w.heap.size < w1.heap.size
    have := hb1.size; simp at this; omega
  clear hb1 HV0 HB0
  have v0 := HV1.out.c0
  have v1 := HV1.out.c1
  have v2 := HV1.out.c2
  by_cases h1 : 5000 < (t.size : Int)
  · go_wp2
    go_ret
    exact ⟨rfl, HB1.out⟩
  by_cases h2 : 5000 < (s.size : Int)
  · go_wp2
    go_ret
    exact ⟨rfl, HB1.out⟩
  have h1' : (t.size : Int) ≤ 5000 := by omega
  have h2' : (s.size : Int) ≤ 5000 := by omega
  have hmx : 5000 ≤ maxLen := by decide
  have ht : t.size ≤ maxLen := by omega
  have hs : s.size ≤ maxLen := by omega
  have HTS := Lib.hid ht
  have HSS := Lib.hid hs
  clear h1 h2 hmx ht hs
  go_wp2_with fail
  refine (text_any k n t _ HTS.out HN.out.1 HN.out.2 (tab_below HT.out HB1.out)).mono ?_
  rintro e w2 ⟨he, hb2⟩
  have HV2 := Lib.hid (HV1.out.next hb2 HZ1.out)
  have HB2 := Lib.hid (HB1.out.trans (hb2.mono (Nat.le_of_lt HZ1.out)))
  have HZ2 : Hid (w.heap.size < w2.heap.size) := Nat.lt_of_lt_of_le HZ1.out hb2.size
  clear hb2 v0 v1 v2 HV1 HB1 HZ1
  rcases he with ⟨hm, rfl⟩ | ⟨hm, rfl⟩
  · have HM := Lib.hid hm
    clear hm
    go_wp2_with fail
    refine (parse_any _ _ (by have := txt_short k n t HM.out HN.out.1 HN.out.2; rw [size_mk]; unfold maxLen; omega) (errs_below HE.out HB2.out) (tab_below HT.out HB2.out)).mono ?_
    rintro e w3 ⟨he, hb3⟩
    have he' : e = .returned (.tuple #[.agg #[.int .i64 k, .int .i64 n, .string t], .int .i64 0]) := by
      rcases he with ⟨k', n', t', rfl, _, _, _, _, hu⟩ | ⟨_, hno⟩
      · obtain ⟨rfl, rfl, rfl⟩ := hu k n t HM.out HN.out (by simp)
        rfl
      · exact absurd (by simp) (hno k n t HM.out HN.out)
    subst he'
    clear he
    have hne := neV k n t
    have HV3 := Lib.hid (HV2.out.next hb3 HZ2.out)
    have HB3 := Lib.hid (HB2.out.trans (hb3.mono (Nat.le_of_lt HZ2.out)))
    have HZ3 : Hid (w.heap.size < w3.heap.size) := Nat.lt_of_lt_of_le HZ2.out hb3.size
    clear hb3 HV2 HB2 HZ2
    have HV4 := HV3.out.next ((Below.refl _ w3).alloc (Nat.le_refl _) (.cells #[.int .i64 k, .int .i64 n, .string t] 23)) HZ3.out
    have v0 := HV4.c0
    have v1 := HV4.c1
    have v2 := HV4.c2
    have HB4 := Lib.hid (HB3.out.trans (((Below.refl _ w3).alloc (Nat.le_refl _) (.cells #[.int .i64 k, .int .i64 n, .string t] 23)).mono (Nat.le_of_lt HZ3.out)))
    have HZ4 : Hid (w.heap.size < (w3.alloc (.cells #[.int .i64 k, .int .i64 n, .string t] 23)).heap.size) := by show _ < _; rw [World.size_alloc]; exact Nat.lt_succ_of_lt HZ3.out
    clear HV4 HB3 HV3
    go_wp2_with fail
    clear v0 v1 v2 hne
    refine (parse_any s _ HSS.out (errs_below HE.out HB4.out) (tab_below HT.out HB4.out)).mono ?_
    rintro e w5 ⟨he, hb5⟩
    have HB5 := Lib.hid (HB4.out.trans (hb5.mono (Nat.le_of_lt HZ4.out)))
    have HZ5 : Hid (w.heap.size < w5.heap.size) := Nat.lt_of_lt_of_le HZ4.out hb5.size
    clear hb5 HB4 HZ4
    rcases he with ⟨k2, n2, t2, rfl, hm2, hn2, ht2, hl2, _⟩ | ⟨rfl, _⟩
    · have HM2 := Lib.hid hm2
      have HN2 := Lib.hid hn2
      have HT2 := Lib.hid ht2
      have hu : (⟨(txtL k2 n2 t2).toArray⟩ : ByteArray) = s := by
        apply ByteArray.ext; apply Array.toList_inj.1; simpa using hl2
      have HU := Lib.hid hu
      have HY := Lib.hid (box3_new w5 (.int .i64 k2) (.int .i64 n2) (.string t2) 23)
      have HB6 := Lib.hid (HB5.out.trans (((Below.refl _ w5).alloc (Nat.le_refl _) (.cells #[.int .i64 k2, .int .i64 n2, .string t2] 23)).mono (Nat.le_of_lt HZ5.out)))
      clear hm2 hn2 ht2 hl2 hu HB5
      go_wp2_with fail
      refine (text_any k2 n2 t2 _ HT2.out HN2.out.1 HN2.out.2 (tab_below HT.out HB6.out)).mono ?_
      rintro e w6 ⟨he, hb6⟩
      have he' : e = .returned (.tuple #[.string s, .int .i64 0]) := by
        rcases he with ⟨_, rfl⟩ | ⟨hm, _⟩
        · rw [HU.out]
        · rw [HM2.out] at hm; cases hm
      subst he'
      clear he
      have HY6 := Lib.hid (HY.out.next hb6 (by simp))
      have HB7 := Lib.hid (HB6.out.trans (hb6.mono (by simp; exact Nat.le_succ_of_le (Nat.le_of_lt HZ5.out))))
      clear hb6 HY HB6
      have y0 := HY6.out.c0
      have y1 := HY6.out.c1
      have y2 := HY6.out.c2
      go_wp2_with fail
      refine (check_any k2 n2 t2 _ HT2.out).mono ?_
      rintro e w7 ⟨rfl, hb7⟩
      have hck : checkN k2 n2 t2 = 0 := by unfold checkN; rw [if_pos HM2.out]
      rw [hck]
      have HB8 := Lib.hid (HB7.out.trans (hb7.mono HB7.out.size))
      clear hb7 y0 y1 y2 hck
      go_wp2
      go_ret
      exact ⟨rfl, HB8.out⟩
    · have HB6 := Lib.hid (HB5.out.trans (((Below.refl _ w5).alloc (Nat.le_refl _) (.cells #[.int .i64 0, .int .i64 0, .string ⟨#[]⟩] 23)).mono (Nat.le_of_lt HZ5.out)))
      clear HB5
      go_wp2_with fail
      refine (text_any 0 0 ⟨#[]⟩ _ (by decide) (by decide) (by decide) (tab_below HT.out HB6.out)).mono ?_
      rintro e w6 ⟨he, hb6⟩
      have he' : e = .returned (.tuple #[.string ⟨#[]⟩, .int .i64 10]) := by
        rcases he with ⟨hm, _⟩ | ⟨_, rfl⟩
        · cases hm
        · rfl
      subst he'
      clear he
      have HB7 := Lib.hid (HB6.out.trans (hb6.mono (by simp; exact Nat.le_succ_of_le (Nat.le_of_lt HZ5.out))))
      clear hb6 HB6
      go_wp2
      go_ret
      exact ⟨rfl, HB7.out⟩
  · go_wp2_with fail
    refine (parse_any _ _ (by decide) (errs_below HE.out HB2.out) (tab_below HT.out HB2.out)).mono ?_
    rintro e w3 ⟨he, hb3⟩
    have HV3 := Lib.hid (HV2.out.next hb3 HZ2.out)
    have HB3 := Lib.hid (HB2.out.trans (hb3.mono (Nat.le_of_lt HZ2.out)))
    have HZ3 : Hid (w.heap.size < w3.heap.size) := Nat.lt_of_lt_of_le HZ2.out hb3.size
    clear hb3 HV2 HB2 HZ2
    obtain ⟨k', n', t', f, rfl⟩ : ∃ (k' n' : Int) (t' : ByteArray) (f : Int), e = .returned (.tuple #[.agg #[.int .i64 k', .int .i64 n', .string t'], .int .i64 f]) := by
      rcases he with ⟨k', n', t', rfl, _⟩ | ⟨rfl, _⟩
      · exact ⟨_, _, _, _, rfl⟩
      · exact ⟨_, _, _, _, rfl⟩
    clear he
    have HB4 := Lib.hid (HB3.out.trans (((Below.refl _ w3).alloc (Nat.le_refl _) (.cells #[.int .i64 k', .int .i64 n', .string t'] 23)).mono (Nat.le_of_lt HZ3.out)))
    have HZ4 : Hid (w.heap.size < (w3.alloc (.cells #[.int .i64 k', .int .i64 n', .string t'] 23)).heap.size) := by show _ < _; rw [World.size_alloc]; exact Nat.lt_succ_of_lt HZ3.out
    clear HB3 HV3
    go_wp2_with fail
    refine (parse_any s _ HSS.out (errs_below HE.out HB4.out) (tab_below HT.out HB4.out)).mono ?_
    rintro e w5 ⟨he, hb5⟩
    have HB5 := Lib.hid (HB4.out.trans (hb5.mono (Nat.le_of_lt HZ4.out)))
    have HZ5 : Hid (w.heap.size < w5.heap.size) := Nat.lt_of_lt_of_le HZ4.out hb5.size
    clear hb5 HB4 HZ4
    rcases he with ⟨k2, n2, t2, rfl, hm2, hn2, ht2, hl2, _⟩ | ⟨rfl, _⟩
    · have HM2 := Lib.hid hm2
      have HN2 := Lib.hid hn2
      have HT2 := Lib.hid ht2
      have hu : (⟨(txtL k2 n2 t2).toArray⟩ : ByteArray) = s := by
        apply ByteArray.ext; apply Array.toList_inj.1; simpa using hl2
      have HU := Lib.hid hu
      have HY := Lib.hid (box3_new w5 (.int .i64 k2) (.int .i64 n2) (.string t2) 23)
      have HB6 := Lib.hid (HB5.out.trans (((Below.refl _ w5).alloc (Nat.le_refl _) (.cells #[.int .i64 k2, .int .i64 n2, .string t2] 23)).mono (Nat.le_of_lt HZ5.out)))
      clear hm2 hn2 ht2 hl2 hu HB5
      go_wp2_with fail
      refine (text_any k2 n2 t2 _ HT2.out HN2.out.1 HN2.out.2 (tab_below HT.out HB6.out)).mono ?_
      rintro e w6 ⟨he, hb6⟩
      have he' : e = .returned (.tuple #[.string s, .int .i64 0]) := by
        rcases he with ⟨_, rfl⟩ | ⟨hm, _⟩
        · rw [HU.out]
        · rw [HM2.out] at hm; cases hm
      subst he'
      clear he
      have HY6 := Lib.hid (HY.out.next hb6 (by simp))
      have HB7 := Lib.hid (HB6.out.trans (hb6.mono (by simp; exact Nat.le_succ_of_le (Nat.le_of_lt HZ5.out))))
      clear hb6 HY HB6
      have y0 := HY6.out.c0
      have y1 := HY6.out.c1
      have y2 := HY6.out.c2
      go_wp2_with fail
      refine (check_any k2 n2 t2 _ HT2.out).mono ?_
      rintro e w7 ⟨rfl, hb7⟩
      have hck : checkN k2 n2 t2 = 0 := by unfold checkN; rw [if_pos HM2.out]
      rw [hck]
      have HB8 := Lib.hid (HB7.out.trans (hb7.mono HB7.out.size))
      clear hb7 y0 y1 y2 hck
      go_wp2
      go_ret
      exact ⟨rfl, HB8.out⟩
    · have HB6 := Lib.hid (HB5.out.trans (((Below.refl _ w5).alloc (Nat.le_refl _) (.cells #[.int .i64 0, .int .i64 0, .string ⟨#[]⟩] 23)).mono (Nat.le_of_lt HZ5.out)))
      clear HB5
      go_wp2_with fail
      refine (text_any 0 0 ⟨#[]⟩ _ (by decide) (by decide) (by decide) (tab_below HT.out HB6.out)).mono ?_
      rintro e w6 ⟨he, hb6⟩
      have he' : e = .returned (.tuple #[.string ⟨#[]⟩, .int .i64 10]) := by
        rcases he with ⟨hm, _⟩ | ⟨_, rfl⟩
        · cases hm
        · rfl
      subst he'
      clear he
      have HB7 := Lib.hid (HB6.out.trans (hb6.mono (by simp; exact Nat.le_succ_of_le (Nat.le_of_lt HZ5.out))))
      clear hb6 HB6
      go_wp2
      go_ret
      exact ⟨rfl, HB7.out⟩

end Go.Proofs.YtjmcopbnkaapdaaDoor
