/-
  CONTRACT of the document's answer: Text.
-/
import Derived.Test.YtpnjolacmkcofaaDoorRefTxt
namespace Go.Proofs.YtpnjolacmkcofaaDoor
open Go.RowKit Go.Shelf

theorem refText_no (k n : Int) (s : ByteArray) (w : World) (hs : s.size ≤ maxLen) (hm : mayB k n s = false) :
    Calls Tryd.prog 8 #[.agg #[.int .i64 k, .int .i64 n, .string s]] w fun e w' => e = .returned (.tuple #[.string ⟨#[]⟩, .int .i64 10]) ∧ Below w.heap.size w w' := by
  have HM := Lib.hid hm
  clear hm
  go_enter Tryd.func8, Tryd.ntmps8
  go_wp2_with fail
  refine (refMay_any _ _ _ _ hs).mono ?_
  rintro e w1 ⟨rfl, hb⟩
  rw [HM.out]
  go_wp2
  go_ret2
  exact ⟨rfl, ((Below.refl _ _).alloc (Nat.le_refl _) _).trans (hb.mono (by simp))⟩
theorem cat_size (c r : ByteArray) : (c ++ r).size = c.size + r.size := by rw [ByteArray.size_append]

set_option maxHeartbeats 4000000 in
set_option maxRecDepth 100000 in
theorem refText_1 (n : Int) (s : ByteArray) (w : World) (hs : s.size ≤ maxLen) (h0 : -9223372036854775808 ≤ n) (h1 : n ≤ 9223372036854775807) (hm : mayB 1 n s = true) :
    Calls Tryd.prog 8 #[.agg #[.int .i64 1, .int .i64 n, .string s]] w fun e w' => e = .returned (.tuple #[.string ⟨(txtL 1 n s).toArray⟩, .int .i64 0]) ∧ Below w.heap.size w w' := by
  have HM := Lib.hid hm
  have HV0 := Lib.hid (holds3_new w 1 n s 23)
  clear hm
  go_enter Tryd.func8, Tryd.ntmps8
  go_wp2_with fail
  refine (refMay_any _ _ _ _ hs).mono ?_
  rintro e w1 ⟨rfl, hb⟩
  rw [HM.out]
  have HV := HV0.out.next hb (by simp)
  have HB := Lib.hid (((Below.refl _ w).alloc (Nat.le_refl _) (.cells #[.int .i64 1, .int .i64 n, .string s] 23)).trans (hb.mono (by simp)))
  have v0 := HV.c0
  have v1 := HV.c1
  have v2 := HV.c2
  clear hb HV HV0
  go_wp2_with fail
  refine (refDigits_any n h0 h1 _).mono ?_
  rintro e w2 ⟨rfl, hb2⟩
  have HB2 := Lib.hid (HB.out.trans (hb2.mono HB.out.size))
  clear hb2 v0 v1 v2
  go_wp2
  go_ret2
  exact ⟨rfl, HB2.out⟩

set_option maxHeartbeats 4000000 in
set_option maxRecDepth 100000 in
theorem refText_5 (n : Int) (s : ByteArray) (w : World) (hs : s.size ≤ maxLen) (h0 : -9223372036854775808 ≤ n) (h1 : n ≤ 9223372036854775807) (hm : mayB 5 n s = true) :
    Calls Tryd.prog 8 #[.agg #[.int .i64 5, .int .i64 n, .string s]] w fun e w' => e = .returned (.tuple #[.string ⟨(txtL 5 n s).toArray⟩, .int .i64 0]) ∧ Below w.heap.size w w' := by
  have HM := Lib.hid hm
  have HV0 := Lib.hid (holds3_new w 5 n s 23)
  have hl := itoa_len n h0 h1
  obtain ⟨r, hr⟩ : ∃ r : ByteArray, (⟨(Lib.itoa n).toArray⟩ : ByteArray) = r := ⟨_, rfl⟩
  have hrs : r.size ≤ 1000 := by rw [← hr, size_mk]; exact hl
  have hcs := cat_one_size 64 r
  have hcm : ((⟨#[64]⟩ : ByteArray) ++ r).size ≤ maxLen := by rw [hcs]; unfold maxLen; omega
  have hC := fun W => refDigits_any n h0 h1 W
  rw [hr] at hC
  have HX : Hid ((⟨(txtL 5 n s).toArray⟩ : ByteArray) = ⟨#[64]⟩ ++ r) := by
    show (⟨(64 :: Lib.itoa n).toArray⟩ : ByteArray) = _
    rw [← hr]
    apply ByteArray.ext
    apply Array.toList_inj.1
    simp
  have HC := Lib.hid hC
  clear hr hl hC
  clear hm
  go_enter Tryd.func8, Tryd.ntmps8
  go_wp2_with fail
  refine (refMay_any _ _ _ _ hs).mono ?_
  rintro e w1 ⟨rfl, hb⟩
  rw [HM.out]
  have HV := HV0.out.next hb (by simp)
  have HB := Lib.hid (((Below.refl _ w).alloc (Nat.le_refl _) (.cells #[.int .i64 5, .int .i64 n, .string s] 23)).trans (hb.mono (by simp)))
  have v0 := HV.c0
  have v1 := HV.c1
  have v2 := HV.c2
  clear hb HV HV0
  go_wp2_with fail
  refine (HC.out _).mono ?_
  rintro e w2 ⟨rfl, hb2⟩
  have HB2 := Lib.hid (HB.out.trans (hb2.mono HB.out.size))
  clear hb2 v0 v1 v2
  go_wp2
  go_ret2
  exact ⟨by rw [HX.out]; rfl, HB2.out⟩

set_option maxHeartbeats 4000000 in
set_option maxRecDepth 100000 in
theorem refText_6 (n : Int) (s : ByteArray) (w : World) (hs : s.size ≤ maxLen) (h0 : -9223372036854775808 ≤ n) (h1 : n ≤ 9223372036854775807) (hm : mayB 6 n s = true) :
    Calls Tryd.prog 8 #[.agg #[.int .i64 6, .int .i64 n, .string s]] w fun e w' => e = .returned (.tuple #[.string ⟨(txtL 6 n s).toArray⟩, .int .i64 0]) ∧ Below w.heap.size w w' := by
  have HM := Lib.hid hm
  have HV0 := Lib.hid (holds3_new w 6 n s 23)
  have hl := itoa_len n h0 h1
  obtain ⟨r, hr⟩ : ∃ r : ByteArray, (⟨(Lib.itoa n).toArray⟩ : ByteArray) = r := ⟨_, rfl⟩
  have hrs : r.size ≤ 1000 := by rw [← hr, size_mk]; exact hl
  have hcs := cat_one_size 33 r
  have hcm : ((⟨#[33]⟩ : ByteArray) ++ r).size ≤ maxLen := by rw [hcs]; unfold maxLen; omega
  have hC := fun W => refDigits_any n h0 h1 W
  rw [hr] at hC
  have HX : Hid ((⟨(txtL 6 n s).toArray⟩ : ByteArray) = ⟨#[33]⟩ ++ r) := by
    show (⟨(33 :: Lib.itoa n).toArray⟩ : ByteArray) = _
    rw [← hr]
    apply ByteArray.ext
    apply Array.toList_inj.1
    simp
  have HC := Lib.hid hC
  clear hr hl hC
  clear hm
  go_enter Tryd.func8, Tryd.ntmps8
  go_wp2_with fail
  refine (refMay_any _ _ _ _ hs).mono ?_
  rintro e w1 ⟨rfl, hb⟩
  rw [HM.out]
  have HV := HV0.out.next hb (by simp)
  have HB := Lib.hid (((Below.refl _ w).alloc (Nat.le_refl _) (.cells #[.int .i64 6, .int .i64 n, .string s] 23)).trans (hb.mono (by simp)))
  have v0 := HV.c0
  have v1 := HV.c1
  have v2 := HV.c2
  clear hb HV HV0
  go_wp2_with fail
  refine (HC.out _).mono ?_
  rintro e w2 ⟨rfl, hb2⟩
  have HB2 := Lib.hid (HB.out.trans (hb2.mono HB.out.size))
  clear hb2 v0 v1 v2
  go_wp2
  go_ret2
  exact ⟨by rw [HX.out]; rfl, HB2.out⟩

set_option maxHeartbeats 4000000 in
set_option maxRecDepth 100000 in
theorem refText_2 (n : Int) (s : ByteArray) (w : World) (hs : s.size ≤ maxLen) (hm : mayB 2 n s = true) :
    Calls Tryd.prog 8 #[.agg #[.int .i64 2, .int .i64 n, .string s]] w fun e w' => e = .returned (.tuple #[.string ⟨(txtL 2 n s).toArray⟩, .int .i64 0]) ∧ Below w.heap.size w w' := by
  have HM := Lib.hid hm
  have HV0 := Lib.hid (holds3_new w 2 n s 23)
  have hn : n = 0 ∨ n = 1 := by
    have : s.size = 0 ∧ (n = 0 ∨ n = 1) := by simpa [mayB] using hm
    exact this.2
  clear hm
  go_enter Tryd.func8, Tryd.ntmps8
  go_wp2_with fail
  refine (refMay_any _ _ _ _ hs).mono ?_
  rintro e w1 ⟨rfl, hb⟩
  rw [HM.out]
  have HV := HV0.out.next hb (by simp)
  have HB := Lib.hid (((Below.refl _ w).alloc (Nat.le_refl _) (.cells #[.int .i64 2, .int .i64 n, .string s] 23)).trans (hb.mono (by simp)))
  have v0 := HV.c0
  have v1 := HV.c1
  have v2 := HV.c2
  clear hb HV HV0
  rcases hn with rfl | rfl
  · go_wp2
    go_ret2
    exact ⟨rfl, HB.out⟩
  · go_wp2
    go_ret2
    exact ⟨rfl, HB.out⟩

set_option maxHeartbeats 4000000 in
set_option maxRecDepth 100000 in
theorem refText_7 (n : Int) (s : ByteArray) (w : World) (hs : s.size ≤ maxLen) (hm : mayB 7 n s = true) :
    Calls Tryd.prog 8 #[.agg #[.int .i64 7, .int .i64 n, .string s]] w fun e w' => e = .returned (.tuple #[.string ⟨(txtL 7 n s).toArray⟩, .int .i64 0]) ∧ Below w.heap.size w w' := by
  have HM := Lib.hid hm
  have HV0 := Lib.hid (holds3_new w 7 n s 23)
  have hw : s.size ≤ 64 := by
    have : n = 0 ∧ wordB s = true := by simpa [mayB] using hm
    exact word_size this.2
  have hcm := cat58_max hw
  have HX : Hid ((⟨(txtL 7 n s).toArray⟩ : ByteArray) = ⟨#[58]⟩ ++ s) := by
    show (⟨(58 :: s.data.toList).toArray⟩ : ByteArray) = _
    apply ByteArray.ext
    apply Array.toList_inj.1
    simp
  clear hm
  go_enter Tryd.func8, Tryd.ntmps8
  go_wp2_with fail
  refine (refMay_any _ _ _ _ hs).mono ?_
  rintro e w1 ⟨rfl, hb⟩
  rw [HM.out]
  have HV := HV0.out.next hb (by simp)
  have HB := Lib.hid (((Below.refl _ w).alloc (Nat.le_refl _) (.cells #[.int .i64 7, .int .i64 n, .string s] 23)).trans (hb.mono (by simp)))
  have v0 := HV.c0
  have v1 := HV.c1
  have v2 := HV.c2
  clear hb HV HV0
  go_wp2
  go_ret2
  exact ⟨by rw [HX.out]; rfl, HB.out⟩

set_option maxHeartbeats 4000000 in
set_option maxRecDepth 100000 in
theorem refText_4 (n : Int) (s : ByteArray) (w : World) (hs : s.size ≤ maxLen) (hm : mayB 4 n s = true) :
    Calls Tryd.prog 8 #[.agg #[.int .i64 4, .int .i64 n, .string s]] w fun e w' => e = .returned (.tuple #[.string ⟨(txtL 4 n s).toArray⟩, .int .i64 0]) ∧ Below w.heap.size w w' := by
  have HM := Lib.hid hm
  have HV0 := Lib.hid (holds3_new w 4 n s 23)
  have hz : s.size ≤ 1000 := by
    have : n = 0 ∧ s.size ≤ 1000 := by simpa [mayB] using hm
    exact this.2
  clear hm
  go_enter Tryd.func8, Tryd.ntmps8
  go_wp2_with fail
  refine (refMay_any _ _ _ _ hs).mono ?_
  rintro e w1 ⟨rfl, hb⟩
  rw [HM.out]
  have HV := HV0.out.next hb (by simp)
  have HB := Lib.hid (((Below.refl _ w).alloc (Nat.le_refl _) (.cells #[.int .i64 4, .int .i64 n, .string s] 23)).trans (hb.mono (by simp)))
  have v0 := HV.c0
  have v1 := HV.c1
  have v2 := HV.c2
  have HV1 := Lib.hid HV
  have hsz : w.heap.size < w1.heap.size := by have := hb.size; simp at this; omega
  clear hb HV HV0
  go_wp2
  clear v0 v1 v2
  go_loopg [5, 6] s.size (fun g x y wr => ∃ (i : Nat) (r : ByteArray), x = .string r ∧ y = .int .i64 i ∧ i + g = s.size ∧ r.size ≤ 3 * i ∧ Hid (r.data.toList = flatL hexL (s.data.toList.take i)) ∧ Hid (Holds3 w.heap.size 4 n s wr) ∧ Hid (Below w.heap.size w wr) ∧ w.heap.size < wr.heap.size)
  case atStart => exact ⟨0, ⟨#[]⟩, rfl, rfl, by omega, by decide, rfl, HV1, HB, hsz⟩
  case round =>
    clear hsz
    obtain ⟨i, r, rfl, rfl, hi, hrs, HR, HV, HBr, hsz⟩ := hrel
    have v2 := HV.out.c2
    cases gk with
    | zero =>
      have hiz : ¬ ((i : Int) < (s.size : Int)) := by omega
      have hcs := cat_one_size 35 r
      have hcm : ((⟨#[35]⟩ : ByteArray) ++ r).size ≤ maxLen := by rw [hcs]; unfold maxLen; omega
      have HX : Hid ((⟨(txtL 4 n s).toArray⟩ : ByteArray) = ⟨#[35]⟩ ++ r) := by
        show (⟨([35] ++ flatL hexL s.data.toList ++ []).toArray⟩ : ByteArray) = _
        have hr := HR.out
        rw [List.take_of_length_le (by rw [Array.length_toList]; show s.size ≤ i; omega)] at hr
        rw [← hr]
        apply ByteArray.ext
        apply Array.toList_inj.1
        simp
      clear hcs
      go_wp2
      go_ret2
      exact ⟨by rw [HX.out]; rfl, HBr.out⟩
    | succ g =>
      have hiz : (i : Int) < (s.size : Int) := by omega
      have hin : i < s.size := by omega
      have hsn := flatL_snoc hexL s i hin
      obtain ⟨h, hh⟩ : ∃ h : ByteArray, (⟨(hexL s[i]).toArray⟩ : ByteArray) = h := ⟨_, rfl⟩
      have hC := fun W => refHex_any s[i] W
      rw [hh] at hC
      have hhs : h.size ≤ 3 := by rw [← hh, size_mk]; exact hexL_len _
      have hca := cat_size r h
      have hcm : (r ++ h).size ≤ maxLen := by rw [hca]; unfold maxLen; omega
      have HN : Hid ((r ++ h).data.toList = flatL hexL (s.data.toList.take (i + 1))) := by
        show _ = _
        rw [hsn, ← HR.out, ← hh]; simp
      have HC := Lib.hid hC
      clear hC hh hsn
      go_wp2_with fail
      refine (HC.out _).mono ?_
      rintro e w3 ⟨rfl, hb3⟩
      have HV3 := Lib.hid (HV.out.next hb3 hsz)
      have HB3 := Lib.hid (HBr.out.trans (hb3.mono (Nat.le_of_lt hsz)))
      have hsz3 : w.heap.size < w3.heap.size := Nat.lt_of_lt_of_le hsz hb3.size
      clear hb3 v2
      go_wp2
      go_roundg g
      case measure => omega
      case rel => exact ⟨i + 1, r ++ h, rfl, by go_num, by omega, by rw [hca]; omega, HN, HV3, HB3, hsz3⟩

theorem ext_one (s : ByteArray) (i : Nat) (h : i < s.size) : (s.extract i (i + 1)).data.toList = [s[i]] := by
  have h1 : (s.extract i (i + 1)).data.toList = (s.data.toList.drop i).take 1 := by
    simp
  rw [h1, drop_at s i h]; rfl
theorem ext_one_size (s : ByteArray) (i : Nat) (h : i < s.size) : (s.extract i (i + 1)).size = 1 := by
  have := congrArg List.length (ext_one s i h)
  exact this

set_option maxHeartbeats 4000000 in
set_option maxRecDepth 100000 in
theorem refText_3 (n : Int) (s : ByteArray) (w : World) (hs : s.size ≤ maxLen) (hm : mayB 3 n s = true) :
    Calls Tryd.prog 8 #[.agg #[.int .i64 3, .int .i64 n, .string s]] w fun e w' => e = .returned (.tuple #[.string ⟨(txtL 3 n s).toArray⟩, .int .i64 0]) ∧ Below w.heap.size w w' := by
  have HM := Lib.hid hm
  have HV0 := Lib.hid (holds3_new w 3 n s 23)
  have hz : s.size ≤ 1000 := by
    have : n = 0 ∧ s.size ≤ 1000 := by simpa [mayB] using hm
    exact this.2
  clear hm
  go_enter Tryd.func8, Tryd.ntmps8
  go_wp2_with fail
  refine (refMay_any _ _ _ _ hs).mono ?_
  rintro e w1 ⟨rfl, hb⟩
  rw [HM.out]
  have HV := HV0.out.next hb (by simp)
  have HB := Lib.hid (((Below.refl _ w).alloc (Nat.le_refl _) (.cells #[.int .i64 3, .int .i64 n, .string s] 23)).trans (hb.mono (by simp)))
  have v0 := HV.c0
  have v1 := HV.c1
  have v2 := HV.c2
  have HV1 := Lib.hid HV
  have hsz : w.heap.size < w1.heap.size := by have := hb.size; simp at this; omega
  clear hb HV HV0
  go_wp2
  clear v0 v1 v2
  go_loopg [5, 7] s.size (fun g x y wr => ∃ (i : Nat) (r : ByteArray), x = .string r ∧ y = .int .i64 i ∧ i + g = s.size ∧ r.size ≤ 3 * i ∧ Hid (r.data.toList = flatL escL (s.data.toList.take i)) ∧ Hid (Holds3 w.heap.size 3 n s wr) ∧ Hid (Below w.heap.size w wr) ∧ w.heap.size < wr.heap.size)
  case atStart => exact ⟨0, ⟨#[]⟩, rfl, rfl, by omega, by decide, rfl, HV1, HB, hsz⟩
  case round =>
    clear hsz
    obtain ⟨i, r, rfl, rfl, hi, hrs, HR, HV, HBr, hsz⟩ := hrel
    have v2 := HV.out.c2
    cases gk with
    | zero =>
      have hiz : ¬ ((i : Int) < (s.size : Int)) := by omega
      have hcs := cat_one_size 34 r
      have hcm : ((⟨#[34]⟩ : ByteArray) ++ r).size ≤ maxLen := by rw [hcs]; unfold maxLen; omega
      have hcs2 := cat_size ((⟨#[34]⟩ : ByteArray) ++ r) ⟨#[34]⟩
      have hcm2 : (((⟨#[34]⟩ : ByteArray) ++ r) ++ ⟨#[34]⟩).size ≤ maxLen := by rw [hcs2, hcs]; show r.size + 1 + 1 ≤ maxLen; unfold maxLen; omega
      have HX : Hid ((⟨(txtL 3 n s).toArray⟩ : ByteArray) = (⟨#[34]⟩ ++ r) ++ ⟨#[34]⟩) := by
        show (⟨([34] ++ flatL escL s.data.toList ++ [34]).toArray⟩ : ByteArray) = _
        have hr := HR.out
        rw [List.take_of_length_le (by rw [Array.length_toList]; show s.size ≤ i; omega)] at hr
        rw [← hr]
        apply ByteArray.ext
        apply Array.toList_inj.1
        simp
      clear hcs hcs2
      go_wp2
      go_ret2
      exact ⟨by rw [HX.out]; rfl, HBr.out⟩
    | succ g =>
      have hiz : (i : Int) < (s.size : Int) := by omega
      have hin : i < s.size := by omega
      have hi1 : (i : Int) + 1 ≤ (s.size : Int) := by omega
      have hsn := flatL_snoc escL s i hin
      go_wp2_with fail
      refine (refPlain_any s[i] _).mono ?_
      rintro e w3 ⟨rfl, rfl⟩
      by_cases hp : plainB (s[i].toNat : Int) = true
      · obtain ⟨h, hh⟩ : ∃ h : ByteArray, s.extract i (i + 1) = h := ⟨_, rfl⟩
        have hhs : h.size = 1 := by rw [← hh]; exact ext_one_size s i hin
        have hca := cat_size r h
        have hcm : (r ++ h).size ≤ maxLen := by rw [hca]; unfold maxLen; omega
        have HN : Hid ((r ++ h).data.toList = flatL escL (s.data.toList.take (i + 1))) := by
          show _ = _
          rw [hsn, ← HR.out, escL_plain hp, ← ext_one s i hin, hh]; simp
        rw [hp]
        rw [← hh] at hcm
        have HH := Lib.hid hh
        clear hsn hp hh
        go_wp2
        go_roundg g
        case measure => omega
        case rel => exact ⟨i + 1, r ++ h, by rw [HH.out], by go_num, by omega, by rw [hca]; omega, HN, HV, HBr, hsz⟩
      · have hp' : plainB (s[i].toNat : Int) = false := by simpa using hp
        obtain ⟨h, hh⟩ : ∃ h : ByteArray, (⟨(hexL s[i]).toArray⟩ : ByteArray) = h := ⟨_, rfl⟩
        have hC := fun W => refHex_any s[i] W
        rw [hh] at hC
        have hhs : h.size = 2 := by rw [← hh, size_mk]; rfl
        have hca := cat_size r ⟨#[92]⟩
        have hca1 : (r ++ (⟨#[92]⟩ : ByteArray)).size = r.size + 1 := hca
        have hca2 := cat_size (r ++ ⟨#[92]⟩) h
        have hcm : (r ++ (⟨#[92]⟩ : ByteArray)).size ≤ maxLen := by rw [hca1]; unfold maxLen; omega
        have hcm2 : ((r ++ (⟨#[92]⟩ : ByteArray)) ++ h).size ≤ maxLen := by rw [hca2, hca1]; unfold maxLen; omega
        have HN : Hid (((r ++ ⟨#[92]⟩) ++ h).data.toList = flatL escL (s.data.toList.take (i + 1))) := by
          show _ = _
          rw [hsn, ← HR.out, escL_not hp', ← hh]; simp
        have HC := Lib.hid hC
        rw [hp']
        clear hC hh hsn hp hp' hca
        go_wp2_with fail
        refine (HC.out _).mono ?_
        rintro e w4 ⟨rfl, hb3⟩
        have HV3 := Lib.hid (HV.out.next hb3 hsz)
        have HB3 := Lib.hid (HBr.out.trans (hb3.mono (Nat.le_of_lt hsz)))
        have hsz3 : w.heap.size < w4.heap.size := Nat.lt_of_lt_of_le hsz hb3.size
        clear hb3 v2
        go_wp2
        go_roundg g
        case measure => omega
        case rel => exact ⟨i + 1, (r ++ ⟨#[92]⟩) ++ h, rfl, by go_num, by omega, by rw [hca2, hca1]; omega, HN, HV3, HB3, hsz3⟩

theorem refText_any (k n : Int) (s : ByteArray) (w : World) (hs : s.size ≤ maxLen) (h0 : -9223372036854775808 ≤ n) (h1 : n ≤ 9223372036854775807) :
    Calls Tryd.prog 8 #[.agg #[.int .i64 k, .int .i64 n, .string s]] w fun e w' => TextEnd k n s e ∧ Below w.heap.size w w' := by
  cases hm : mayB k n s
  · exact (refText_no k n s w hs hm).mono fun e w' ⟨he, hb⟩ => ⟨.inr ⟨hm, he⟩, hb⟩
  · have hk : k = 1 ∨ k = 2 ∨ k = 3 ∨ k = 4 ∨ k = 5 ∨ k = 6 ∨ k = 7 := by
      unfold mayB at hm
      by_cases a1 : k = 1 ∨ k = 6
      · omega
      by_cases a2 : k = 2
      · omega
      by_cases a3 : k = 3 ∨ k = 4
      · omega
      by_cases a4 : k = 5
      · omega
      by_cases a5 : k = 7
      · omega
      simp [a1, a2, a3, a4, a5] at hm
    have fin : ∀ {e : Ending} {w' : World}, e = .returned (.tuple #[.string ⟨(txtL k n s).toArray⟩, .int .i64 0]) ∧ Below w.heap.size w w' → TextEnd k n s e ∧ Below w.heap.size w w' := fun h => ⟨.inl ⟨hm, h.1⟩, h.2⟩
    rcases hk with rfl | rfl | rfl | rfl | rfl | rfl | rfl
    · exact (refText_1 n s w hs h0 h1 hm).mono fun e w' h => fin h
    · exact (refText_2 n s w hs hm).mono fun e w' h => fin h
    · exact (refText_3 n s w hs hm).mono fun e w' h => fin h
    · exact (refText_4 n s w hs hm).mono fun e w' h => fin h
    · exact (refText_5 n s w hs h0 h1 hm).mono fun e w' h => fin h
    · exact (refText_6 n s w hs h0 h1 hm).mono fun e w' h => fin h
    · exact (refText_7 n s w hs hm).mono fun e w' h => fin h

end Go.Proofs.YtpnjolacmkcofaaDoor
