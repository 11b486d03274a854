/-
  CONTRACT: Value (the document's).
-/
import Derived.Test.YtefekkcmoambhaaJORdTxt
namespace Go.Proofs.Ytefekkcmoambhaa
open Go.RowKit Go.Shelf

theorem refMay_is {k n : Int} {s : ByteArray} {m : Bool} (w : World) (hs : s.size ≤ maxLen) (hm : mayB k n s = m) :
    Calls Try.prog 68 #[.agg #[.int .i64 k, .int .i64 n, .string s]] w fun e w' => e = .returned (.bool m) ∧ Below w.heap.size w w' :=
  (refMay_any k n s w hs).mono fun e w' ⟨h, hb⟩ => ⟨by rw [h, hm], hb⟩
theorem own_src {W : World} {B : Nat} {v : Value} {l : List UInt8} (h : OwnB W B v l) (hl : l ≠ []) : ∃ ad c, v = .slice (some ad) l.length c ∧ ad.block < W.heap.size ∧ ∀ j u, (cellsL l)[j]? = some u → W.cell? (ad.add j) = some u := by
  obtain ⟨A, c, rfl⟩ := ownB_form h
  obtain ⟨ad, rfl, hlt, hc⟩ := (SlB.of_own h).2 hl
  exact ⟨ad, c, rfl, hlt, fun j u hu => by obtain ⟨x, hx, rfl⟩ := cellsL_at hu; exact hc j x hx⟩
theorem numB_ne (n : Int) : numB n ≠ [] := by
  intro e
  have := congrArg List.length e
  rw [numB_len] at this
  cases this

set_option maxRecDepth 100000 in
set_option maxHeartbeats 1000000 in
theorem refValue_no (k n : Int) (s : ByteArray) (W : World) (hs : s.size ≤ 5000) (hm : mayB k n s = false) :
    Calls Try.prog 112 #[.agg #[.int .i64 k, .int .i64 n, .string s]] W (ValEnd W k n s) := by
  have hsx : s.size ≤ maxLen := by unfold maxLen; omega
  have HM := Lib.hid hm
  clear hm
  go_enter Try.func112, Try.ntmps112
  go_wp2_with fail
  refine (refMay_is _ hsx HM.out).mono ?_
  rintro e w1 ⟨rfl, hb⟩
  have HB := Lib.hid (((Below.refl _ W).alloc (Nat.le_refl _) (.cells #[.int .i64 k, .int .i64 n, .string s] 24)).trans (hb.mono (by simp)))
  clear hb
  go_wp2
  go_ret2
  exact valEnd_no HM.out HB.out

set_option maxRecDepth 100000 in
set_option maxHeartbeats 2000000 in
theorem refValue_1 (n : Int) (s : ByteArray) (W : World) (hs : s.size ≤ 5000) (h0 : -9223372036854775808 ≤ n) (h1 : n ≤ 9223372036854775807) (hm : mayB 1 n s = true) :
    Calls Try.prog 112 #[.agg #[.int .i64 1, .int .i64 n, .string s]] W (ValEnd W 1 n s) := by
  obtain ⟨i0, hi, hz0, hz1, hz2⟩ := info_parts info8
  have hmx : 50000 ≤ maxLen := by decide
  have hsx : s.size ≤ maxLen := by omega
  have HM := Lib.hid hm
  clear hm
  have HV := Lib.hid (valAt_new W 1 n s)
  go_enter Try.func112, Try.ntmps112
  go_wp2_with fail
  refine (refMay_is _ hsx HM.out).mono ?_
  rintro e w1 ⟨rfl, hb⟩
  have HB := Lib.hid (((Below.refl _ W).alloc (Nat.le_refl _) (.cells #[.int .i64 1, .int .i64 n, .string s] 24)).trans (hb.mono (by simp)))
  have hv := HV.out.next hb (by simp)
  have HV1 := Lib.hid hv
  have hsz : W.heap.size + 1 ≤ w1.heap.size := by have := hb.size; simpa using this
  have HBx : Hid (Below (W.heap.size + 1) (W.alloc (.cells #[.int .i64 1, .int .i64 n, .string s] 24)) w1) := hb.mono (by simp)
  have hsW : W.heap.size ≤ w1.heap.size := by omega
  have c0 := hv.c0
  have c1 := hv.c1
  have c2 := hv.c2
  clear hb hv
  have hva := HV1.out.alloc (.cells #[.int .u8 1] 5)
  have d0 := hva.c0
  have d1 := hva.c1
  have d2 := hva.c2
  clear hva
  go_wp2_with fail
  refine (refNumber_any n _ h0 h1).mono ?_
  rintro e w4 ⟨v4, rfl, ho4, hb4⟩
  have HD : Hid (OwnB w4 W.heap.size (.slice (some ⟨w1.heap.size, 0, none⟩) 1 1) [1]) := (show OwnB _ _ _ [1] from own_lit w1 W.heap.size [1] 1 hsW rfl (by decide)).next hb4
  have HB4 := Lib.hid ((HB.out.alloc hsW (.cells #[.int .u8 1] 5)).trans (hb4.mono (by simp; omega)))
  obtain ⟨ad, cx, rfl, _, hc⟩ := own_src ho4 (numB_ne n)
  have HN8 := Lib.hid (numB_len n)
  have HC := Lib.hid hc
  have hs4 := HB4.out.size
  clear ho4 hb4 hc c0 c1 c2 d0 d1 d2
  go_wp2_with (at_builtin; refine wpList_append_own _ rfl _ _ 43 rfl W.heap.size 5 i0 (.int .u8 0) 1 1 Try.underlying43 hi hz0 hz1 hz2 rfl (by decide) _ 1 (cellsL [1]) rfl HD.out ad (numB n).length cx (cellsL (numB n)) rfl (by rw [cellsL_len, Nat.mul_one]) HC.out (cellsL_one _) (by rw [HN8.out]; omega) (by rw [HN8.out]; omega) (by omega) ?_; intro v' w5 hown' hgrow _)
  go_ret2
  refine valEnd_yes HM.out ?_ (HB4.out.trans (below_own HD.out hgrow (by omega)))
  rw [← cellsL_app] at hown'
  show World.ownsRow _ _ _ _ _ _ _
  simpa [valB, tailB, Nat.add_comm] using hown'

set_option maxRecDepth 100000 in
set_option maxHeartbeats 2000000 in
theorem refValue_2 (n : Int) (s : ByteArray) (W : World) (hs : s.size ≤ 5000) (_h0 : -9223372036854775808 ≤ n) (_h1 : n ≤ 9223372036854775807) (hm : mayB 2 n s = true) :
    Calls Try.prog 112 #[.agg #[.int .i64 2, .int .i64 n, .string s]] W (ValEnd W 2 n s) := by
  obtain ⟨i0, hi, hz0, hz1, hz2⟩ := info_parts info8
  have hmx : 50000 ≤ maxLen := by decide
  have hsx : s.size ≤ maxLen := by omega
  have HM := Lib.hid hm
  have hn := (may_bool hm).2
  obtain ⟨c, hc⟩ : ∃ c : UInt8, UInt8.ofNat n.toNat = c := ⟨_, rfl⟩
  have hcn : (c.toNat : Int) = n := by rw [← hc]; rcases hn with rfl | rfl <;> rfl
  have HC := Lib.hid hc
  have HN := Lib.hid hcn
  have n0 : 0 ≤ n := by omega
  have n1 : n ≤ 1 := by omega
  clear hc hcn hn
  clear hm
  have HV := Lib.hid (valAt_new W 2 n s)
  go_enter Try.func112, Try.ntmps112
  go_wp2_with fail
  refine (refMay_is _ hsx HM.out).mono ?_
  rintro e w1 ⟨rfl, hb⟩
  have HB := Lib.hid (((Below.refl _ W).alloc (Nat.le_refl _) (.cells #[.int .i64 2, .int .i64 n, .string s] 24)).trans (hb.mono (by simp)))
  have hv := HV.out.next hb (by simp)
  have HV1 := Lib.hid hv
  have hsz : W.heap.size + 1 ≤ w1.heap.size := by have := hb.size; simpa using this
  have HBx : Hid (Below (W.heap.size + 1) (W.alloc (.cells #[.int .i64 2, .int .i64 n, .string s] 24)) w1) := hb.mono (by simp)
  have hsW : W.heap.size ≤ w1.heap.size := by omega
  have c0 := hv.c0
  have c1 := hv.c1
  have c2 := hv.c2
  clear hb hv
  have hva := HV1.out.alloc (.cells #[.int .u8 2] 5)
  have HD : Hid (OwnB (w1.alloc (.cells #[.int .u8 2] 5)) W.heap.size (.slice (some ⟨w1.heap.size, 0, none⟩) 1 1) [2]) := own_lit w1 W.heap.size [2] 1 hsW rfl (by decide)
  have HBy : Hid (Below W.heap.size W (w1.alloc (.cells #[.int .u8 2] 5))) := HB.out.alloc hsW _
  obtain ⟨w2, hw2⟩ : ∃ w2, w1.alloc (.cells #[.int .u8 2] 5) = w2 := ⟨_, rfl⟩
  have HW2 := Lib.hid hw2
  rw [hw2] at HD HBy hva
  clear hw2
  go_upto_region 5 with (fail)
  rw [HW2.out]
  have d0 := hva.c0
  have d1 := hva.c1
  have d2 := hva.c2
  clear hva c0 c1 c2
  go_wp2_with (at_builtin; refine wpList_append_own _ rfl _ _ 43 rfl W.heap.size 5 i0 (.int .u8 0) 1 1 Try.underlying43 hi hz0 hz1 hz2 rfl (by decide) _ 1 (cellsL [2]) rfl (HD.out.alloc _) ⟨w2.heap.size, 0, none⟩ 1 1 (cellsL [c]) rfl rfl (fun j u h => cell_lit _ _ _ j u (by rw [← h, ← HN.out]; rfl)) (cellsL_one _) (by omega) (by omega) (by have := HBy.out.size; simp; omega) ?_; intro v' w5 hown' hgrow _)
  go_ret2
  refine valEnd_yes HM.out ?_ (HBy.out.trans (((Below.refl _ _).alloc HBy.out.size _).trans (below_own (HD.out.alloc _) hgrow (by have := HBy.out.size; simp; omega))))
  rw [← cellsL_app] at hown'
  show World.ownsRow _ _ _ _ _ _ _
  simpa [valB, tailB, HC.out] using hown'

set_option maxRecDepth 100000 in
set_option maxHeartbeats 2000000 in
theorem refValue_3 (n : Int) (s : ByteArray) (W : World) (hs : s.size ≤ 5000) (_h0 : -9223372036854775808 ≤ n) (_h1 : n ≤ 9223372036854775807) (hm : mayB 3 n s = true) :
    Calls Try.prog 112 #[.agg #[.int .i64 3, .int .i64 n, .string s]] W (ValEnd W 3 n s) := by
  obtain ⟨i0, hi, hz0, hz1, hz2⟩ := info_parts info8
  have hmx : 50000 ≤ maxLen := by decide
  have hsx : s.size ≤ maxLen := by omega
  have HM := Lib.hid hm
  clear hm
  have HV := Lib.hid (valAt_new W 3 n s)
  go_enter Try.func112, Try.ntmps112
  go_wp2_with fail
  refine (refMay_is _ hsx HM.out).mono ?_
  rintro e w1 ⟨rfl, hb⟩
  have HB := Lib.hid (((Below.refl _ W).alloc (Nat.le_refl _) (.cells #[.int .i64 3, .int .i64 n, .string s] 24)).trans (hb.mono (by simp)))
  have hv := HV.out.next hb (by simp)
  have HV1 := Lib.hid hv
  have hsz : W.heap.size + 1 ≤ w1.heap.size := by have := hb.size; simpa using this
  have HBx : Hid (Below (W.heap.size + 1) (W.alloc (.cells #[.int .i64 3, .int .i64 n, .string s] 24)) w1) := hb.mono (by simp)
  have hsW : W.heap.size ≤ w1.heap.size := by omega
  have c0 := hv.c0
  have c1 := hv.c1
  have c2 := hv.c2
  clear hb hv
  have hva := HV1.out.alloc (.cells #[.int .u8 3] 5)
  have HD : Hid (OwnB (w1.alloc (.cells #[.int .u8 3] 5)) (W.heap.size + 1) (.slice (some ⟨w1.heap.size, 0, none⟩) 1 1) [3]) := own_lit w1 (W.heap.size + 1) [3] 1 hsz rfl (by decide)
  have hsz2 : W.heap.size + 1 ≤ (w1.alloc (.cells #[.int .u8 3] 5)).heap.size := by simp; omega
  have HBy : Hid (Below W.heap.size W (w1.alloc (.cells #[.int .u8 3] 5))) := HB.out.alloc hsW _
  obtain ⟨w2, hw2⟩ : ∃ w2, w1.alloc (.cells #[.int .u8 3] 5) = w2 := ⟨_, rfl⟩
  have HW2 := Lib.hid hw2
  rw [hw2] at HD hsz2 HBy hva
  have HV2 := Lib.hid hva
  clear hw2
  go_upto_region 5 with (fail)
  rw [HW2.out]
  have d0 := hva.c0
  have d1 := hva.c1
  have d2 := hva.c2
  clear hva c0 c1 c2
  go_wp2
  clear d0 d1 d2
  go_loopg [5, 6] s.size (fun g x z wr => ∃ (i : Nat) (v : Value), x = v ∧ z = .int .i64 i ∧ i + g = s.size ∧ Hid (OwnB wr (W.heap.size + 1) v (3 :: zeroL (s.data.toList.take i))) ∧ Hid (Below (W.heap.size + 1) w2 wr) ∧ W.heap.size + 1 ≤ wr.heap.size)
  case atStart => exact ⟨0, _, rfl, rfl, by omega, (by show OwnB _ _ _ _; simpa [zeroL] using HD.out), Below.refl _ _, hsz2⟩
  case round =>
    obtain ⟨i, v, rfl, rfl, hi2, HR, HBr, hBr⟩ := hrel
    have hlen : (zeroL (s.data.toList.take i)).length ≤ 2 * s.size := zeroL_take s i
    have hln : (3 :: zeroL (s.data.toList.take i)).length ≤ 10001 := by rw [List.length_cons]; omega
    have hcv := HV2.out.next HBr.out (by omega)
    have e0 := hcv.c0
    have e1 := hcv.c1
    have e2 := hcv.c2
    clear hcv hlen
    cases gk with
    | zero =>
      have hiz : ¬ ((i : Int) < (s.size : Int)) := by omega
      have HZ := Lib.hid (zeroL_all s i (by omega))
      go_wp2_with (at_builtin; refine wpList_append_own _ rfl _ _ 43 rfl (W.heap.size + 1) 5 i0 (.int .u8 0) 1 1 Try.underlying43 hi hz0 hz1 hz2 rfl (by decide) _ _ _ rfl (HR.out.alloc _) ⟨wr.heap.size, 0, none⟩ 2 2 (cellsL [0, 1]) rfl rfl (fun j u h => cell_lit _ _ _ j u h) (cellsL_one _) (by omega) (by omega) (by simp; omega) ?_; intro v' w3 hown' hgrow _)
      go_ret2
      refine valEnd_yes HM.out ?_ (HBy.out.trans (((HBr.out.mono (Nat.le_succ _)).alloc (by omega) _).trans (below_own ((HR.out.from_ (Nat.le_succ _)).alloc _) hgrow (by simp; omega))))
      have h9 : OwnB w3 (W.heap.size + 1) v' (valB 3 n s) := by
        show World.ownsRow _ _ _ _ _ _ _
        rw [← cellsL_app] at hown'
        simpa [valB, tailB, HZ.out, Nat.add_assoc] using hown'
      exact h9.from_ (Nat.le_succ _)
    | succ g =>
      have hiz : (i : Int) < (s.size : Int) := by omega
      have hin : i < s.size := by omega
      have HS := Lib.hid (zeroL_snoc s i hin)
      by_cases hc : s[i] = 0
      · have hcc : ((s[i].toNat : Int) == 0) = true := by rw [hc]; rfl
        have HC := Lib.hid hc
        clear hc
        go_wp2_with (at_builtin; refine wpList_append_own _ rfl _ _ 43 rfl (W.heap.size + 1) 5 i0 (.int .u8 0) 1 1 Try.underlying43 hi hz0 hz1 hz2 rfl (by decide) _ _ _ rfl (HR.out.alloc _) ⟨wr.heap.size, 0, none⟩ 2 2 (cellsL [0, 255]) rfl rfl (fun j u h => cell_lit _ _ _ j u h) (cellsL_one _) (by omega) (by omega) (by simp; omega) ?_; intro v' w3 hown' hgrow _)
        go_roundg g
        case measure => omega
        case rel => exact ⟨i + 1, v', rfl, by go_num, by omega, (by show OwnB _ _ _ _; rw [HS.out, if_pos HC.out]; rw [← cellsL_app] at hown'; show World.ownsRow _ _ _ _ _ _ _; simpa [Nat.add_assoc] using hown'), (HBr.out.alloc hBr _).trans (below_own (HR.out.alloc _) hgrow (by simp; omega)), by have := hgrow.size; simp at this; omega⟩
      · have hcc : ((s[i].toNat : Int) == 0) = false := by
          rw [beq_eq_false_iff_ne]
          intro e
          exact hc (UInt8.toNat_inj.1 (by show s[i].toNat = 0; omega))
        have HC := Lib.hid hc
        have hva := (HV2.out.next HBr.out (by omega)).alloc (.cells #[.int .u8 (s[i].toNat : Int)] 5)
        clear hc hva
        go_wp2_with (at_builtin; refine wpList_append_own _ rfl _ _ 43 rfl (W.heap.size + 1) 5 i0 (.int .u8 0) 1 1 Try.underlying43 hi hz0 hz1 hz2 rfl (by decide) _ _ _ rfl (HR.out.alloc _) ⟨wr.heap.size, 0, none⟩ 1 1 (cellsL [s[i]]) rfl rfl (fun j u h => cell_lit _ _ _ j u h) (cellsL_one _) (by omega) (by omega) (by simp; omega) ?_; intro v' w3 hown' hgrow _)
        go_roundg g
        case measure => omega
        case rel => exact ⟨i + 1, v', rfl, by go_num, by omega, (by show OwnB _ _ _ _; rw [HS.out, if_neg HC.out]; rw [← cellsL_app] at hown'; show World.ownsRow _ _ _ _ _ _ _; simpa [Nat.add_assoc] using hown'), (HBr.out.alloc hBr _).trans (below_own (HR.out.alloc _) hgrow (by simp; omega)), by have := hgrow.size; simp at this; omega⟩

set_option maxRecDepth 100000 in
set_option maxHeartbeats 2000000 in
theorem refValue_4 (n : Int) (s : ByteArray) (W : World) (hs : s.size ≤ 5000) (_h0 : -9223372036854775808 ≤ n) (_h1 : n ≤ 9223372036854775807) (hm : mayB 4 n s = true) :
    Calls Try.prog 112 #[.agg #[.int .i64 4, .int .i64 n, .string s]] W (ValEnd W 4 n s) := by
  obtain ⟨i0, hi, hz0, hz1, hz2⟩ := info_parts info8
  have hmx : 50000 ≤ maxLen := by decide
  have hsx : s.size ≤ maxLen := by omega
  have HM := Lib.hid hm
  clear hm
  have HV := Lib.hid (valAt_new W 4 n s)
  go_enter Try.func112, Try.ntmps112
  go_wp2_with fail
  refine (refMay_is _ hsx HM.out).mono ?_
  rintro e w1 ⟨rfl, hb⟩
  have HB := Lib.hid (((Below.refl _ W).alloc (Nat.le_refl _) (.cells #[.int .i64 4, .int .i64 n, .string s] 24)).trans (hb.mono (by simp)))
  have hv := HV.out.next hb (by simp)
  have HV1 := Lib.hid hv
  have hsz : W.heap.size + 1 ≤ w1.heap.size := by have := hb.size; simpa using this
  have HBx : Hid (Below (W.heap.size + 1) (W.alloc (.cells #[.int .i64 4, .int .i64 n, .string s] 24)) w1) := hb.mono (by simp)
  have hsW : W.heap.size ≤ w1.heap.size := by omega
  have c0 := hv.c0
  have c1 := hv.c1
  have c2 := hv.c2
  clear hb hv
  have hva := HV1.out.alloc (.cells #[.int .u8 4] 5)
  have HD : Hid (OwnB (w1.alloc (.cells #[.int .u8 4] 5)) (W.heap.size + 1) (.slice (some ⟨w1.heap.size, 0, none⟩) 1 1) [4]) := own_lit w1 (W.heap.size + 1) [4] 1 hsz rfl (by decide)
  have hsz2 : W.heap.size + 1 ≤ (w1.alloc (.cells #[.int .u8 4] 5)).heap.size := by simp; omega
  have HBy : Hid (Below W.heap.size W (w1.alloc (.cells #[.int .u8 4] 5))) := HB.out.alloc hsW _
  obtain ⟨w2, hw2⟩ : ∃ w2, w1.alloc (.cells #[.int .u8 4] 5) = w2 := ⟨_, rfl⟩
  have HW2 := Lib.hid hw2
  rw [hw2] at HD hsz2 HBy hva
  have HV2 := Lib.hid hva
  clear hw2
  go_upto_region 5 with (fail)
  rw [HW2.out]
  have d0 := hva.c0
  have d1 := hva.c1
  have d2 := hva.c2
  clear hva c0 c1 c2
  go_wp2
  clear d0 d1 d2
  go_loopg [5, 6] s.size (fun g x z wr => ∃ (i : Nat) (v : Value), x = v ∧ z = .int .i64 i ∧ i + g = s.size ∧ Hid (OwnB wr (W.heap.size + 1) v (4 :: zeroL (s.data.toList.take i))) ∧ Hid (Below (W.heap.size + 1) w2 wr) ∧ W.heap.size + 1 ≤ wr.heap.size)
  case atStart => exact ⟨0, _, rfl, rfl, by omega, (by show OwnB _ _ _ _; simpa [zeroL] using HD.out), Below.refl _ _, hsz2⟩
  case round =>
    obtain ⟨i, v, rfl, rfl, hi2, HR, HBr, hBr⟩ := hrel
    have hlen : (zeroL (s.data.toList.take i)).length ≤ 2 * s.size := zeroL_take s i
    have hln : (4 :: zeroL (s.data.toList.take i)).length ≤ 10001 := by rw [List.length_cons]; omega
    have hcv := HV2.out.next HBr.out (by omega)
    have e0 := hcv.c0
    have e1 := hcv.c1
    have e2 := hcv.c2
    clear hcv hlen
    cases gk with
    | zero =>
      have hiz : ¬ ((i : Int) < (s.size : Int)) := by omega
      have HZ := Lib.hid (zeroL_all s i (by omega))
      go_wp2_with (at_builtin; refine wpList_append_own _ rfl _ _ 43 rfl (W.heap.size + 1) 5 i0 (.int .u8 0) 1 1 Try.underlying43 hi hz0 hz1 hz2 rfl (by decide) _ _ _ rfl (HR.out.alloc _) ⟨wr.heap.size, 0, none⟩ 2 2 (cellsL [0, 1]) rfl rfl (fun j u h => cell_lit _ _ _ j u h) (cellsL_one _) (by omega) (by omega) (by simp; omega) ?_; intro v' w3 hown' hgrow _)
      go_ret2
      refine valEnd_yes HM.out ?_ (HBy.out.trans (((HBr.out.mono (Nat.le_succ _)).alloc (by omega) _).trans (below_own ((HR.out.from_ (Nat.le_succ _)).alloc _) hgrow (by simp; omega))))
      have h9 : OwnB w3 (W.heap.size + 1) v' (valB 4 n s) := by
        show World.ownsRow _ _ _ _ _ _ _
        rw [← cellsL_app] at hown'
        simpa [valB, tailB, HZ.out, Nat.add_assoc] using hown'
      exact h9.from_ (Nat.le_succ _)
    | succ g =>
      have hiz : (i : Int) < (s.size : Int) := by omega
      have hin : i < s.size := by omega
      have HS := Lib.hid (zeroL_snoc s i hin)
      by_cases hc : s[i] = 0
      · have hcc : ((s[i].toNat : Int) == 0) = true := by rw [hc]; rfl
        have HC := Lib.hid hc
        clear hc
        go_wp2_with (at_builtin; refine wpList_append_own _ rfl _ _ 43 rfl (W.heap.size + 1) 5 i0 (.int .u8 0) 1 1 Try.underlying43 hi hz0 hz1 hz2 rfl (by decide) _ _ _ rfl (HR.out.alloc _) ⟨wr.heap.size, 0, none⟩ 2 2 (cellsL [0, 255]) rfl rfl (fun j u h => cell_lit _ _ _ j u h) (cellsL_one _) (by omega) (by omega) (by simp; omega) ?_; intro v' w3 hown' hgrow _)
        go_roundg g
        case measure => omega
        case rel => exact ⟨i + 1, v', rfl, by go_num, by omega, (by show OwnB _ _ _ _; rw [HS.out, if_pos HC.out]; rw [← cellsL_app] at hown'; show World.ownsRow _ _ _ _ _ _ _; simpa [Nat.add_assoc] using hown'), (HBr.out.alloc hBr _).trans (below_own (HR.out.alloc _) hgrow (by simp; omega)), by have := hgrow.size; simp at this; omega⟩
      · have hcc : ((s[i].toNat : Int) == 0) = false := by
          rw [beq_eq_false_iff_ne]
          intro e
          exact hc (UInt8.toNat_inj.1 (by show s[i].toNat = 0; omega))
        have HC := Lib.hid hc
        have hva := (HV2.out.next HBr.out (by omega)).alloc (.cells #[.int .u8 (s[i].toNat : Int)] 5)
        clear hc hva
        go_wp2_with (at_builtin; refine wpList_append_own _ rfl _ _ 43 rfl (W.heap.size + 1) 5 i0 (.int .u8 0) 1 1 Try.underlying43 hi hz0 hz1 hz2 rfl (by decide) _ _ _ rfl (HR.out.alloc _) ⟨wr.heap.size, 0, none⟩ 1 1 (cellsL [s[i]]) rfl rfl (fun j u h => cell_lit _ _ _ j u h) (cellsL_one _) (by omega) (by omega) (by simp; omega) ?_; intro v' w3 hown' hgrow _)
        go_roundg g
        case measure => omega
        case rel => exact ⟨i + 1, v', rfl, by go_num, by omega, (by show OwnB _ _ _ _; rw [HS.out, if_neg HC.out]; rw [← cellsL_app] at hown'; show World.ownsRow _ _ _ _ _ _ _; simpa [Nat.add_assoc] using hown'), (HBr.out.alloc hBr _).trans (below_own (HR.out.alloc _) hgrow (by simp; omega)), by have := hgrow.size; simp at this; omega⟩

set_option maxRecDepth 100000 in
set_option maxHeartbeats 2000000 in
theorem refValue_5 (n : Int) (s : ByteArray) (W : World) (hs : s.size ≤ 5000) (h0 : -9223372036854775808 ≤ n) (h1 : n ≤ 9223372036854775807) (hm : mayB 5 n s = true) :
    Calls Try.prog 112 #[.agg #[.int .i64 5, .int .i64 n, .string s]] W (ValEnd W 5 n s) := by
  obtain ⟨i0, hi, hz0, hz1, hz2⟩ := info_parts info8
  have hmx : 50000 ≤ maxLen := by decide
  have hsx : s.size ≤ maxLen := by omega
  have HM := Lib.hid hm
  clear hm
  have HV := Lib.hid (valAt_new W 5 n s)
  go_enter Try.func112, Try.ntmps112
  go_wp2_with fail
  refine (refMay_is _ hsx HM.out).mono ?_
  rintro e w1 ⟨rfl, hb⟩
  have HB := Lib.hid (((Below.refl _ W).alloc (Nat.le_refl _) (.cells #[.int .i64 5, .int .i64 n, .string s] 24)).trans (hb.mono (by simp)))
  have hv := HV.out.next hb (by simp)
  have HV1 := Lib.hid hv
  have hsz : W.heap.size + 1 ≤ w1.heap.size := by have := hb.size; simpa using this
  have HBx : Hid (Below (W.heap.size + 1) (W.alloc (.cells #[.int .i64 5, .int .i64 n, .string s] 24)) w1) := hb.mono (by simp)
  have hsW : W.heap.size ≤ w1.heap.size := by omega
  have c0 := hv.c0
  have c1 := hv.c1
  have c2 := hv.c2
  clear hb hv
  have hva := HV1.out.alloc (.cells #[.int .u8 5] 5)
  have d0 := hva.c0
  have d1 := hva.c1
  have d2 := hva.c2
  clear hva
  go_wp2_with fail
  refine (refNumber_any n _ h0 h1).mono ?_
  rintro e w4 ⟨v4, rfl, ho4, hb4⟩
  have HD : Hid (OwnB w4 W.heap.size (.slice (some ⟨w1.heap.size, 0, none⟩) 1 1) [5]) := (show OwnB _ _ _ [5] from own_lit w1 W.heap.size [5] 1 hsW rfl (by decide)).next hb4
  have HB4 := Lib.hid ((HB.out.alloc hsW (.cells #[.int .u8 5] 5)).trans (hb4.mono (by simp; omega)))
  obtain ⟨ad, cx, rfl, _, hc⟩ := own_src ho4 (numB_ne n)
  have HN8 := Lib.hid (numB_len n)
  have HC := Lib.hid hc
  have hs4 := HB4.out.size
  clear ho4 hb4 hc c0 c1 c2 d0 d1 d2
  go_wp2_with (at_builtin; refine wpList_append_own _ rfl _ _ 43 rfl W.heap.size 5 i0 (.int .u8 0) 1 1 Try.underlying43 hi hz0 hz1 hz2 rfl (by decide) _ 1 (cellsL [5]) rfl HD.out ad (numB n).length cx (cellsL (numB n)) rfl (by rw [cellsL_len, Nat.mul_one]) HC.out (cellsL_one _) (by rw [HN8.out]; omega) (by rw [HN8.out]; omega) (by omega) ?_; intro v' w5 hown' hgrow _)
  go_ret2
  refine valEnd_yes HM.out ?_ (HB4.out.trans (below_own HD.out hgrow (by omega)))
  rw [← cellsL_app] at hown'
  show World.ownsRow _ _ _ _ _ _ _
  simpa [valB, tailB, Nat.add_comm] using hown'

set_option maxRecDepth 100000 in
set_option maxHeartbeats 2000000 in
theorem refValue_6 (n : Int) (s : ByteArray) (W : World) (hs : s.size ≤ 5000) (h0 : -9223372036854775808 ≤ n) (h1 : n ≤ 9223372036854775807) (hm : mayB 6 n s = true) :
    Calls Try.prog 112 #[.agg #[.int .i64 6, .int .i64 n, .string s]] W (ValEnd W 6 n s) := by
  obtain ⟨i0, hi, hz0, hz1, hz2⟩ := info_parts info8
  have hmx : 50000 ≤ maxLen := by decide
  have hsx : s.size ≤ maxLen := by omega
  have HM := Lib.hid hm
  clear hm
  have HV := Lib.hid (valAt_new W 6 n s)
  go_enter Try.func112, Try.ntmps112
  go_wp2_with fail
  refine (refMay_is _ hsx HM.out).mono ?_
  rintro e w1 ⟨rfl, hb⟩
  have HB := Lib.hid (((Below.refl _ W).alloc (Nat.le_refl _) (.cells #[.int .i64 6, .int .i64 n, .string s] 24)).trans (hb.mono (by simp)))
  have hv := HV.out.next hb (by simp)
  have HV1 := Lib.hid hv
  have hsz : W.heap.size + 1 ≤ w1.heap.size := by have := hb.size; simpa using this
  have HBx : Hid (Below (W.heap.size + 1) (W.alloc (.cells #[.int .i64 6, .int .i64 n, .string s] 24)) w1) := hb.mono (by simp)
  have hsW : W.heap.size ≤ w1.heap.size := by omega
  have c0 := hv.c0
  have c1 := hv.c1
  have c2 := hv.c2
  clear hb hv
  have hva := HV1.out.alloc (.cells #[.int .u8 6] 5)
  have d0 := hva.c0
  have d1 := hva.c1
  have d2 := hva.c2
  clear hva
  go_wp2_with fail
  refine (refNumber_any n _ h0 h1).mono ?_
  rintro e w4 ⟨v4, rfl, ho4, hb4⟩
  have HD : Hid (OwnB w4 W.heap.size (.slice (some ⟨w1.heap.size, 0, none⟩) 1 1) [6]) := (show OwnB _ _ _ [6] from own_lit w1 W.heap.size [6] 1 hsW rfl (by decide)).next hb4
  have HB4 := Lib.hid ((HB.out.alloc hsW (.cells #[.int .u8 6] 5)).trans (hb4.mono (by simp; omega)))
  obtain ⟨ad, cx, rfl, _, hc⟩ := own_src ho4 (numB_ne n)
  have HN8 := Lib.hid (numB_len n)
  have HC := Lib.hid hc
  have hs4 := HB4.out.size
  clear ho4 hb4 hc c0 c1 c2 d0 d1 d2
  go_wp2_with (at_builtin; refine wpList_append_own _ rfl _ _ 43 rfl W.heap.size 5 i0 (.int .u8 0) 1 1 Try.underlying43 hi hz0 hz1 hz2 rfl (by decide) _ 1 (cellsL [6]) rfl HD.out ad (numB n).length cx (cellsL (numB n)) rfl (by rw [cellsL_len, Nat.mul_one]) HC.out (cellsL_one _) (by rw [HN8.out]; omega) (by rw [HN8.out]; omega) (by omega) ?_; intro v' w5 hown' hgrow _)
  go_ret2
  refine valEnd_yes HM.out ?_ (HB4.out.trans (below_own HD.out hgrow (by omega)))
  rw [← cellsL_app] at hown'
  show World.ownsRow _ _ _ _ _ _ _
  simpa [valB, tailB, Nat.add_comm] using hown'

set_option maxRecDepth 100000 in
set_option maxHeartbeats 2000000 in
theorem refValue_7 (n : Int) (s : ByteArray) (W : World) (hs : s.size ≤ 5000) (_h0 : -9223372036854775808 ≤ n) (_h1 : n ≤ 9223372036854775807) (hm : mayB 7 n s = true) :
    Calls Try.prog 112 #[.agg #[.int .i64 7, .int .i64 n, .string s]] W (ValEnd W 7 n s) := by
  obtain ⟨i0, hi, hz0, hz1, hz2⟩ := info_parts info8
  have hmx : 50000 ≤ maxLen := by decide
  have hsx : s.size ≤ maxLen := by omega
  have HM := Lib.hid hm
  clear hm
  have HV := Lib.hid (valAt_new W 7 n s)
  go_enter Try.func112, Try.ntmps112
  go_wp2_with fail
  refine (refMay_is _ hsx HM.out).mono ?_
  rintro e w1 ⟨rfl, hb⟩
  have HB := Lib.hid (((Below.refl _ W).alloc (Nat.le_refl _) (.cells #[.int .i64 7, .int .i64 n, .string s] 24)).trans (hb.mono (by simp)))
  have hv := HV.out.next hb (by simp)
  have HV1 := Lib.hid hv
  have hsz : W.heap.size + 1 ≤ w1.heap.size := by have := hb.size; simpa using this
  have HBx : Hid (Below (W.heap.size + 1) (W.alloc (.cells #[.int .i64 7, .int .i64 n, .string s] 24)) w1) := hb.mono (by simp)
  have hsW : W.heap.size ≤ w1.heap.size := by omega
  have c0 := hv.c0
  have c1 := hv.c1
  have c2 := hv.c2
  clear hb hv
  have hva := HV1.out.alloc (.cells #[.int .u8 7] 5)
  have HD : Hid (OwnB (w1.alloc (.cells #[.int .u8 7] 5)) (W.heap.size + 1) (.slice (some ⟨w1.heap.size, 0, none⟩) 1 1) [7]) := own_lit w1 (W.heap.size + 1) [7] 1 hsz rfl (by decide)
  have hsz2 : W.heap.size + 1 ≤ (w1.alloc (.cells #[.int .u8 7] 5)).heap.size := by simp; omega
  have HBy : Hid (Below W.heap.size W (w1.alloc (.cells #[.int .u8 7] 5))) := HB.out.alloc hsW _
  obtain ⟨w2, hw2⟩ : ∃ w2, w1.alloc (.cells #[.int .u8 7] 5) = w2 := ⟨_, rfl⟩
  have HW2 := Lib.hid hw2
  rw [hw2] at HD hsz2 HBy hva
  have HV2 := Lib.hid hva
  clear hw2
  go_upto_region 5 with (fail)
  rw [HW2.out]
  have d0 := hva.c0
  have d1 := hva.c1
  have d2 := hva.c2
  clear hva c0 c1 c2
  go_wp2
  clear d0 d1 d2
  go_loopg [5, 6] s.size (fun g x z wr => ∃ (i : Nat) (v : Value), x = v ∧ z = .int .i64 i ∧ i + g = s.size ∧ Hid (OwnB wr (W.heap.size + 1) v (7 :: zeroL (s.data.toList.take i))) ∧ Hid (Below (W.heap.size + 1) w2 wr) ∧ W.heap.size + 1 ≤ wr.heap.size)
  case atStart => exact ⟨0, _, rfl, rfl, by omega, (by show OwnB _ _ _ _; simpa [zeroL] using HD.out), Below.refl _ _, hsz2⟩
  case round =>
    obtain ⟨i, v, rfl, rfl, hi2, HR, HBr, hBr⟩ := hrel
    have hlen : (zeroL (s.data.toList.take i)).length ≤ 2 * s.size := zeroL_take s i
    have hln : (7 :: zeroL (s.data.toList.take i)).length ≤ 10001 := by rw [List.length_cons]; omega
    have hcv := HV2.out.next HBr.out (by omega)
    have e0 := hcv.c0
    have e1 := hcv.c1
    have e2 := hcv.c2
    clear hcv hlen
    cases gk with
    | zero =>
      have hiz : ¬ ((i : Int) < (s.size : Int)) := by omega
      have HZ := Lib.hid (zeroL_all s i (by omega))
      go_wp2_with (at_builtin; refine wpList_append_own _ rfl _ _ 43 rfl (W.heap.size + 1) 5 i0 (.int .u8 0) 1 1 Try.underlying43 hi hz0 hz1 hz2 rfl (by decide) _ _ _ rfl (HR.out.alloc _) ⟨wr.heap.size, 0, none⟩ 2 2 (cellsL [0, 1]) rfl rfl (fun j u h => cell_lit _ _ _ j u h) (cellsL_one _) (by omega) (by omega) (by simp; omega) ?_; intro v' w3 hown' hgrow _)
      go_ret2
      refine valEnd_yes HM.out ?_ (HBy.out.trans (((HBr.out.mono (Nat.le_succ _)).alloc (by omega) _).trans (below_own ((HR.out.from_ (Nat.le_succ _)).alloc _) hgrow (by simp; omega))))
      have h9 : OwnB w3 (W.heap.size + 1) v' (valB 7 n s) := by
        show World.ownsRow _ _ _ _ _ _ _
        rw [← cellsL_app] at hown'
        simpa [valB, tailB, HZ.out, Nat.add_assoc] using hown'
      exact h9.from_ (Nat.le_succ _)
    | succ g =>
      have hiz : (i : Int) < (s.size : Int) := by omega
      have hin : i < s.size := by omega
      have HS := Lib.hid (zeroL_snoc s i hin)
      by_cases hc : s[i] = 0
      · have hcc : ((s[i].toNat : Int) == 0) = true := by rw [hc]; rfl
        have HC := Lib.hid hc
        clear hc
        go_wp2_with (at_builtin; refine wpList_append_own _ rfl _ _ 43 rfl (W.heap.size + 1) 5 i0 (.int .u8 0) 1 1 Try.underlying43 hi hz0 hz1 hz2 rfl (by decide) _ _ _ rfl (HR.out.alloc _) ⟨wr.heap.size, 0, none⟩ 2 2 (cellsL [0, 255]) rfl rfl (fun j u h => cell_lit _ _ _ j u h) (cellsL_one _) (by omega) (by omega) (by simp; omega) ?_; intro v' w3 hown' hgrow _)
        go_roundg g
        case measure => omega
        case rel => exact ⟨i + 1, v', rfl, by go_num, by omega, (by show OwnB _ _ _ _; rw [HS.out, if_pos HC.out]; rw [← cellsL_app] at hown'; show World.ownsRow _ _ _ _ _ _ _; simpa [Nat.add_assoc] using hown'), (HBr.out.alloc hBr _).trans (below_own (HR.out.alloc _) hgrow (by simp; omega)), by have := hgrow.size; simp at this; omega⟩
      · have hcc : ((s[i].toNat : Int) == 0) = false := by
          rw [beq_eq_false_iff_ne]
          intro e
          exact hc (UInt8.toNat_inj.1 (by show s[i].toNat = 0; omega))
        have HC := Lib.hid hc
        have hva := (HV2.out.next HBr.out (by omega)).alloc (.cells #[.int .u8 (s[i].toNat : Int)] 5)
        clear hc hva
        go_wp2_with (at_builtin; refine wpList_append_own _ rfl _ _ 43 rfl (W.heap.size + 1) 5 i0 (.int .u8 0) 1 1 Try.underlying43 hi hz0 hz1 hz2 rfl (by decide) _ _ _ rfl (HR.out.alloc _) ⟨wr.heap.size, 0, none⟩ 1 1 (cellsL [s[i]]) rfl rfl (fun j u h => cell_lit _ _ _ j u h) (cellsL_one _) (by omega) (by omega) (by simp; omega) ?_; intro v' w3 hown' hgrow _)
        go_roundg g
        case measure => omega
        case rel => exact ⟨i + 1, v', rfl, by go_num, by omega, (by show OwnB _ _ _ _; rw [HS.out, if_neg HC.out]; rw [← cellsL_app] at hown'; show World.ownsRow _ _ _ _ _ _ _; simpa [Nat.add_assoc] using hown'), (HBr.out.alloc hBr _).trans (below_own (HR.out.alloc _) hgrow (by simp; omega)), by have := hgrow.size; simp at this; omega⟩

theorem refValue_any (k n : Int) (s : ByteArray) (W : World) (hs : s.size ≤ 5000) (h0 : -9223372036854775808 ≤ n) (h1 : n ≤ 9223372036854775807) :
    Calls Try.prog 112 #[.agg #[.int .i64 k, .int .i64 n, .string s]] W (ValEnd W k n s) := by
  cases hm : mayB k n s
  · exact refValue_no k n s W hs hm
  have hk := may_kind hm
  have h7 : k = 1 ∨ k = 2 ∨ k = 3 ∨ k = 4 ∨ k = 5 ∨ k = 6 ∨ k = 7 := by omega
  rcases h7 with rfl | rfl | rfl | rfl | rfl | rfl | rfl
  · exact refValue_1 n s W hs h0 h1 hm
  · exact refValue_2 n s W hs h0 h1 hm
  · exact refValue_3 n s W hs h0 h1 hm
  · exact refValue_4 n s W hs h0 h1 hm
  · exact refValue_5 n s W hs h0 h1 hm
  · exact refValue_6 n s W hs h0 h1 hm
  · exact refValue_7 n s W hs h0 h1 hm

end Go.Proofs.Ytefekkcmoambhaa
