/-
  CONTRACTS: whether rows rise; whether a relation may be (the program's).
-/
import Derived.Test.YtafnhhbdcleihaaZRows
import Derived.Test.YtafnhhbdcleihaaZSorted
import Derived.Test.YtafnhhbdcleihaaZTold
namespace Go.Proofs.Ytafnhhbdcleihaa
open Go.RowKit

open Classical in
/-- do rows rise? -/
noncomputable def upsB (t : List (List Vl)) : Bool := decide (Ups ordR t)
theorem upsB_no {t : List (List Vl)} {j : Nat} {x y : List Vl} (h1 : t[j]? = some x) (h2 : t[j + 1]? = some y) (h : ¬ ordR x y < 0) : upsB t = false := by
  unfold upsB
  rw [decide_eq_false_iff_not]
  intro hu
  obtain ⟨a, e1⟩ := List.getElem?_eq_some_iff.1 h1
  obtain ⟨b, e2⟩ := List.getElem?_eq_some_iff.1 h2
  have := List.pairwise_iff_getElem.1 hu j (j + 1) a b (by omega)
  rw [e1, e2] at this
  exact h this
theorem ups_of {t : List (List Vl)} : ∀ (n : Nat), n ≤ t.length → (∀ (j : Nat) (x y : List Vl), j + 1 < n → t[j]? = some x → t[j + 1]? = some y → ordR x y < 0) → Ups ordR (t.take n)
  | 0, _, _ => by show List.Pairwise _ _; simp
  | n + 1, hn, h => by
    have ih := ups_of n (by omega) fun j x y hj => h j x y (by omega)
    rw [List.take_succ_eq_append_getElem (by omega)]
    refine List.pairwise_append.2 ⟨ih, List.pairwise_singleton _ _, fun a ha b hb => ?_⟩
    rw [List.mem_singleton] at hb
    subst hb
    obtain ⟨i, hi, rfl⟩ := List.getElem_of_mem ha
    have hi2 : i < n := by rw [List.length_take] at hi; omega
    rw [List.getElem_take]
    have hl : ordR (t[n - 1]'(by omega)) t[n] < 0 := h (n - 1) _ _ (by omega) (List.getElem?_eq_getElem (by omega)) (by rw [show n - 1 + 1 = n from by omega]; exact List.getElem?_eq_getElem (by omega))
    by_cases e : i = n - 1
    · subst e; exact hl
    · have h3 := List.pairwise_iff_getElem.1 ih i (n - 1) (by rw [List.length_take]; omega) (by rw [List.length_take]; omega) (by omega)
      rw [List.getElem_take, List.getElem_take] at h3
      exact ordR_is.lt h3 (by omega)
open Classical in
theorem upsB_yes {t : List (List Vl)} (h0 : ∀ (j : Nat) (x y : List Vl), t[j]? = some x → t[j + 1]? = some y → ordR x y < 0) : upsB t = true := by
  have := ups_of (t := t) t.length (Nat.le_refl _) fun j x y _ => h0 j x y
  rw [List.take_length] at this
  cases h : upsB t with
  | true => rfl
  | false =>
    unfold upsB at h
    exact absurd this (of_decide_eq_false h)
open Classical in
theorem upsB_iff {t : List (List Vl)} : upsB t = true ↔ Ups ordR t := by
  constructor
  · intro h
    unfold upsB at h
    exact of_decide_eq_true h
  · intro h
    cases h2 : upsB t with
    | true => rfl
    | false =>
      unfold upsB at h2
      exact absurd h (of_decide_eq_false h2)

set_option maxRecDepth 100000 in
set_option maxHeartbeats 2000000 in
theorem rise_any (A : Option Addr) (c : Nat) (R : List Rw) (w : World) (hs : SlR w w.heap.size A R) (hl : R.length ≤ 1000000000) :
    Calls Try.prog 61 #[.slice A R.length c] w fun e w' => e = .returned (.bool (upsB (txR R))) ∧ Below w.heap.size w w' := by
  have HS := Lib.hid hs
  clear hs
  go_enter Try.func61, Try.ntmps61
  go_wp2
  go_loopg [3] (R.length + 1) (fun g x3 wr => ∃ j : Nat, x3 = .int .i64 j ∧ 1 ≤ j ∧ j ≤ R.length + 1 ∧ R.length + 1 - j ≤ g ∧ Hid (∀ (i : Nat) (x y : List Vl), i + 1 < j → (txR R)[i]? = some x → (txR R)[i + 1]? = some y → ordR x y < 0) ∧ Hid (Below w.heap.size w wr))
  case atStart => exact ⟨1, rfl, Nat.le_refl _, by omega, by omega, fun i x y h => absurd h (by omega), Below.refl _ _⟩
  case round =>
    obtain ⟨j, rfl, hj1, hj2, hj3, HJ, HB⟩ := hrel
    by_cases h1 : j < R.length
    · have h1i : (j : Int) < (R.length : Int) := by omega
      have hw1 : IntKind.i64.wrap ((j : Int) - 1) = ((j - 1 : Nat) : Int) := by
        rw [show ((j - 1 : Nat) : Int) = (j : Int) - 1 from by omega]; exact IntWalk.i64_in _ (by omega)
      have hj0 : j - 1 < R.length := by omega
      obtain ⟨e1, o1, r3, rfl, hlt1, hr3, p3, hok3⟩ := (HS.out.up HB.out (Nat.le_refl _)).at_ hj0
      obtain ⟨e1', o1', r4, hA1', _, hr4, p4, hok4⟩ := (HS.out.up HB.out (Nat.le_refl _)).at_ h1
      injection hA1' with hA1'
      injection hA1' with hx1 hx2
      subst hx1 hx2
      have HCA := Lib.hid (fun W (hb : Below wr.heap.size wr W) => cmpR_any r3 r4 W (hok3.up hb (Nat.le_refl _)) (hok4.up hb (Nat.le_refl _)))
      have HR3 := Lib.hid (txR_at hr3)
      have HR4 := Lib.hid (txR_at hr4)
      obtain ⟨A3, c3, l3⟩ := r3
      obtain ⟨A4, c4, l4⟩ := r4
      unfold cellR at HCA
      obtain ⟨q, hq⟩ : ∃ q, ordR l3 l4 = q := ⟨_, rfl⟩
      have HQ := Lib.hid hq
      rw [hq] at HCA
      have HSD1 := Lib.hid (CsA.start p3 p4 hlt1 hlt1)
      obtain ⟨wd1, hwd1⟩ : ∃ wd, wr.drew = wd := ⟨_, rfl⟩
      rw [hwd1] at HSD1
      clear hok3 hok4 hr3 hr4 hq p3 p4
      go_wp2_with fail
      refine wp_region_held_drew (S := CsA wr ⟨e1, o1 + (j - 1), none⟩ ⟨e1, o1 + j, none⟩ (.slice A3 l3.length c3) (.slice A4 l4.length c4)) (by kernel_rfl) (by rw [hwd1]; exact HSD1.out) (fun hHeld => ?_)
      rw [hwd1] at hHeld ⊢
      clear hwd1
      refine takeV 0 (some 10) ((.slice (some ⟨e1, o1, none⟩) R.length c)) rfl rfl (by kernel_rfl) (by kernel_rfl) (by kernel_rfl) (fun _ _ _ h => h) (by rfl) (by (intro _w _hSw; (try dsimp only at _hSw); go_simp)) (by assumption) ?_
      simp only [Act.put, List.setIfInBounds_toArray, List.set_cons_zero, List.set_cons_succ]
      refine takeV 1 (some 11) ((.int .i64 j)) rfl rfl (by kernel_rfl) (by kernel_rfl) (by kernel_rfl) (fun _ _ _ h => h) (by rfl) (by (intro _w _hSw; (try dsimp only at _hSw); go_simp)) (by assumption) ?_
      simp only [Act.put, List.setIfInBounds_toArray, List.set_cons_zero, List.set_cons_succ]
      refine takeV 2 (some 12) ((.int .i64 ((j - 1 : Nat) : Int))) rfl rfl (by kernel_rfl) (by kernel_rfl) (by kernel_rfl) (fun _ _ _ h => h) (by rfl) (by (intro _w _hSw; (try dsimp only at _hSw); go_simp)) (by assumption) ?_
      simp only [Act.put, List.setIfInBounds_toArray, List.set_cons_zero, List.set_cons_succ]
      refine takeV 3 (some 13) ((.pointer (some ⟨e1, o1 + (j - 1), none⟩))) rfl rfl (by kernel_rfl) (by kernel_rfl) (by kernel_rfl) (fun _ _ _ h => h) (by rfl) (by (intro _w _hSw; (try dsimp only at _hSw); go_simp)) (by assumption) ?_
      simp only [Act.put, List.setIfInBounds_toArray, List.set_cons_zero, List.set_cons_succ]
      refine takeV 4 (some 14) ((.slice A3 l3.length c3)) rfl rfl (by kernel_rfl) (by kernel_rfl) (by kernel_rfl) (fun _ _ _ h => h) (by rfl) (by (intro _w hSw; have k0 := hSw.1; clear hSw; go_simp)) (by assumption) ?_
      simp only [Act.put, List.setIfInBounds_toArray, List.set_cons_zero, List.set_cons_succ]
      refine takeV 5 (some 15) ((.slice (some ⟨e1, o1, none⟩) R.length c)) rfl rfl (by kernel_rfl) (by kernel_rfl) (by kernel_rfl) (fun _ _ _ h => h) (by rfl) (by (intro _w _hSw; (try dsimp only at _hSw); go_simp)) (by assumption) ?_
      simp only [Act.put, List.setIfInBounds_toArray, List.set_cons_zero, List.set_cons_succ]
      refine takeV 6 (some 16) ((.int .i64 j)) rfl rfl (by kernel_rfl) (by kernel_rfl) (by kernel_rfl) (fun _ _ _ h => h) (by rfl) (by (intro _w _hSw; (try dsimp only at _hSw); go_simp)) (by assumption) ?_
      simp only [Act.put, List.setIfInBounds_toArray, List.set_cons_zero, List.set_cons_succ]
      refine takeV 7 (some 17) ((.pointer (some ⟨e1, o1 + j, none⟩))) rfl rfl (by kernel_rfl) (by kernel_rfl) (by kernel_rfl) (fun _ _ _ h => h) (by rfl) (by (intro _w _hSw; (try dsimp only at _hSw); go_simp)) (by assumption) ?_
      simp only [Act.put, List.setIfInBounds_toArray, List.set_cons_zero, List.set_cons_succ]
      refine takeV 8 (some 18) ((.slice A4 l4.length c4)) rfl rfl (by kernel_rfl) (by kernel_rfl) (by kernel_rfl) (fun _ _ _ h => h) (by rfl) (by (intro _w hSw; have k0 := hSw.2.1; clear hSw; go_simp)) (by assumption) ?_
      simp only [Act.put, List.setIfInBounds_toArray, List.set_cons_zero, List.set_cons_succ]
      refine callV 9 rfl (by kernel_rfl) (by rfl) (fun K hK => ?_)
      go_simp
      refine (HCA.out _ hHeld.2.2.2).mono ?_
      rintro e w3 ⟨rfl, hb3⟩
      have HB3 := Lib.hid ((hHeld.next hb3).2.2.2)
      refine hK.out _ _ (hHeld.next hb3) (fun _ => ?_)
      clear hK K hHeld hb3
      try simp only [Act.put, List.setIfInBounds_toArray, List.set_cons_zero, List.set_cons_succ]
      clear HSD1
      by_cases hq0 : 0 ≤ q
      · have hq1 : True := trivial
        clear hq1
        refine takeV 10 (some 20) ((.bool true)) rfl rfl (by kernel_rfl) (by kernel_rfl) (by kernel_rfl) (fun _ _ _ h => h) (by rfl) (by (intro _w _hSw; (try dsimp only at _hSw); go_simp)) (by assumption) ?_
        simp only [Act.put, List.setIfInBounds_toArray, List.set_cons_zero, List.set_cons_succ]
        refine wpAnyH_done (by kernel_rfl) ?_ _
        have HE : Hid (upsB (txR R) = false) := upsB_no HR3.out (by rw [show j - 1 + 1 = j from by omega]; exact HR4.out) (by rw [HQ.out]; omega)
        go_wp2
        go_ret
        exact ⟨ret_bool (by rw [HE.out]), HB.out.trans (HB3.out.mono HB.out.size)⟩
      · have hq1 : True := trivial
        clear hq1
        refine takeV 10 (some 20) ((.bool false)) rfl rfl (by kernel_rfl) (by kernel_rfl) (by kernel_rfl) (fun _ _ _ h => h) (by rfl) (by (intro _w _hSw; (try dsimp only at _hSw); go_simp)) (by assumption) ?_
        simp only [Act.put, List.setIfInBounds_toArray, List.set_cons_zero, List.set_cons_succ]
        refine wpAnyH_done (by kernel_rfl) ?_ _
        have HE : Hid (∀ (i : Nat) (x y : List Vl), i + 1 < j + 1 → (txR R)[i]? = some x → (txR R)[i + 1]? = some y → ordR x y < 0) := fun i x y h1 h2 h3 => by
          by_cases e : i = j - 1
          · subst e
            rw [show j - 1 + 1 = j from by omega, HR4.out] at h3
            rw [HR3.out] at h2
            rw [← Option.some.inj h2, ← Option.some.inj h3, HQ.out]; omega
          · exact HJ.out i x y (by omega) h2 h3
        go_wp2
        go_roundg (R.length + 1 - (j + 1))
        case measure => omega
        case rel => exact ⟨j + 1, by go_num, by omega, by omega, Nat.le_refl _, HE.out, HB.out.trans (HB3.out.mono HB.out.size)⟩
    · have h1i : ¬ (j : Int) < (R.length : Int) := by omega
      have HE : Hid (upsB (txR R) = true) := upsB_yes fun i x y h2 h3 => HJ.out i x y (by have := (List.getElem?_eq_some_iff.1 h3).1; rw [txR_len] at this; omega) h2 h3
      go_wp2
      go_ret
      exact ⟨ret_bool (by rw [HE.out]), HB.out⟩
/-- may a relation be? -/
noncomputable def mayRel (cols : List ByteArray) (R : List Rw) : Bool := colsB cols && decide (R.length ≤ 100000) && longB cols.length R && upsB (txR R)
set_option maxRecDepth 100000 in
set_option maxHeartbeats 2000000 in
theorem may_any (A : Option Addr) (c : Nat) (cols : List ByteArray) (A' : Option Addr) (c' : Nat) (R : List Rw) (w : World) (hc : SlC w w.heap.size A cols) (hR : SlR w w.heap.size A' R) (hcc : cols.length ≤ c) (hl : cols.length ≤ 1000000000) (hl' : R.length ≤ 1000000000) :
    Calls Try.prog 26 #[.agg #[.slice A cols.length c, .slice A' R.length c']] w fun e w' => e = .returned (.bool (mayRel cols R)) ∧ Below w.heap.size w w' := by
  obtain ⟨wa, hwa⟩ : ∃ wa, w.alloc (.cells #[.slice A cols.length c, .slice A' R.length c'] 26) = wa := ⟨_, rfl⟩
  have hza : wa.heap.size = w.heap.size + 1 := by rw [← hwa]; simp
  have hba : Below w.heap.size w wa := by rw [← hwa]; exact (Below.refl _ _).alloc (Nat.le_refl _) _
  have a0 : wa.cell? ⟨w.heap.size, 0, none⟩ = some (.slice A cols.length c) := by rw [← hwa, World.cell?_alloc_new]; rfl
  have a1 : wa.cell? ⟨w.heap.size, 1, none⟩ = some (.slice A' R.length c') := by rw [← hwa, World.cell?_alloc_new]; rfl
  have HCE := Lib.hid (show wa.cell? ⟨w.heap.size, 0, none⟩ = _ ∧ wa.cell? ⟨w.heap.size, 1, none⟩ = _ ∧ w.heap.size < wa.heap.size from ⟨a0, a1, by omega⟩)
  have HBA := Lib.hid hba
  have HA := Lib.hid (areCols_any A c cols wa w.heap.size (hc.next hba (Nat.le_refl _)) (by omega) hcc)
  have HLO := Lib.hid (areAsLong_any cols.length A' c' R wa wa.heap.size (hR.up hba (Nat.le_refl _)) (Nat.le_refl _) (by omega))
  have HRI := Lib.hid (fun W (hb : Below wa.heap.size wa W) => rise_any A' c' R W ((hR.up hba (Nat.le_refl _)).up hb (Nat.le_refl _)) hl')
  clear hc hR hza hba
  by_cases h1 : colsB cols = true
  · rw [h1] at HA
    by_cases h2 : R.length ≤ 100000
    · have h2i : (R.length : Int) ≤ 100000 := by omega
      by_cases h3 : longB cols.length R = true
      · rw [h3] at HLO
        have HE : Hid (mayRel cols R = upsB (txR R)) := by show _ = _; unfold mayRel; rw [h1, h3, decide_eq_true h2]; rfl
        clear h1 h3
        go_enter Try.func26, Try.ntmps26
        go_wp2_with fail
        refine HA.out.mono ?_
        rintro e w' ⟨rfl, rfl⟩
        go_wp2_with fail
        refine HLO.out.mono ?_
        rintro e w2 ⟨rfl, hb2⟩
        have HB2 := Lib.hid hb2
        have a1 := (hb2.cell (p := ⟨w.heap.size, 1, none⟩) HCE.out.2.2).trans HCE.out.2.1
        clear a0 hb2 hwa
        go_wp2_with fail
        refine (HRI.out _ HB2.out).mono ?_
        rintro e w3 ⟨rfl, hb3⟩
        have HB3 := Lib.hid (HBA.out.trans ((HB2.out.trans (hb3.mono HB2.out.size)).mono HBA.out.size))
        clear hb3
        go_wp2
        go_ret
        exact ⟨ret_bool (by rw [HE.out]), HB3.out⟩
      · rw [Bool.not_eq_true] at h3
        rw [h3] at HLO
        have HE : Hid (mayRel cols R = false) := by show _ = _; unfold mayRel; rw [h3, Bool.and_false]; rfl
        clear h1 h3
        go_enter Try.func26, Try.ntmps26
        go_wp2_with fail
        refine HA.out.mono ?_
        rintro e w' ⟨rfl, rfl⟩
        go_wp2_with fail
        refine HLO.out.mono ?_
        rintro e w2 ⟨rfl, hb2⟩
        have HB2 := Lib.hid (HBA.out.trans (hb2.mono HBA.out.size))
        clear a0 hb2 hwa
        go_wp2
        go_ret
        exact ⟨ret_bool (by rw [HE.out]), HB2.out⟩
    · have h2i : ¬ (R.length : Int) ≤ 100000 := by omega
      have HE : Hid (mayRel cols R = false) := by show _ = _; unfold mayRel; rw [decide_eq_false h2, Bool.and_false]; rfl
      clear h1
      go_enter Try.func26, Try.ntmps26
      go_wp2_with fail
      refine HA.out.mono ?_
      rintro e w' ⟨rfl, rfl⟩
      go_wp2
      go_ret
      exact ⟨ret_bool (by rw [HE.out]), HBA.out⟩
  · rw [Bool.not_eq_true] at h1
    rw [h1] at HA
    have HE : Hid (mayRel cols R = false) := by show _ = _; unfold mayRel; rw [h1]; rfl
    clear h1
    go_enter Try.func26, Try.ntmps26
    go_wp2_with fail
    refine HA.out.mono ?_
    rintro e w' ⟨rfl, rfl⟩
    go_wp2
    go_ret
    exact ⟨ret_bool (by rw [HE.out]), HBA.out⟩
end Go.Proofs.Ytafnhhbdcleihaa
