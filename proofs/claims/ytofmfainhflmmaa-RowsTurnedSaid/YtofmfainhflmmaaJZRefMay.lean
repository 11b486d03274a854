import Derived.Test.YtofmfainhflmmaaJZGath
import Derived.Test.YtofmfainhflmmaaJZTold
import Derived.Test.YtofmfainhflmmaaJZPlaces
import Derived.Test.YtofmfainhflmmaaJZOne
import Derived.Shelf.SlCmpFuncs.BinarySearchFunc
import Derived.Test.YtofmfainhflmmaaJSorts
/-
  CONTRACTS: whether rows rise; whether a relation may be (the program's).
-/
namespace Go.Proofs.Ytofmfainhflmmaa
open Go.RowKit

open Classical in
/-- do rows rise? -/
noncomputable def upsB (t : List (List Vl)) : Bool := decide (Ups ordR t)
theorem upsB_no {t : List (List Vl)} {j : Nat} {x y : List Vl} (h1 : t[j]? = some x) (h2 : t[j + 1]? = some y) (h : ¬ ordR x y < 0) : upsB t = false := by
  unfold upsB
  rw [decide_eq_false_iff_not]
  intro hu
  obtain ⟨a, e1⟩ := List.getElem?_eq_some_iff.1 h1
  obtain ⟨b, e2⟩ := List.getElem?_eq_some_iff.1 h2
  have := List.pairwise_iff_getElem.1 hu j (j + 1) a b (by omega)
  rw [e1, e2] at this
  exact h this
theorem ups_of {t : List (List Vl)} : ∀ (n : Nat), n ≤ t.length → (∀ (j : Nat) (x y : List Vl), j + 1 < n → t[j]? = some x → t[j + 1]? = some y → ordR x y < 0) → Ups ordR (t.take n)
  | 0, _, _ => by show List.Pairwise _ _; simp
  | n + 1, hn, h => by
    have ih := ups_of n (by omega) fun j x y hj => h j x y (by omega)
    rw [List.take_succ_eq_append_getElem (by omega)]
    refine List.pairwise_append.2 ⟨ih, List.pairwise_singleton _ _, fun a ha b hb => ?_⟩
    rw [List.mem_singleton] at hb
    subst hb
    obtain ⟨i, hi, rfl⟩ := List.getElem_of_mem ha
    have hi2 : i < n := by rw [List.length_take] at hi; omega
    rw [List.getElem_take]
    have hl : ordR (t[n - 1]'(by omega)) t[n] < 0 := h (n - 1) _ _ (by omega) (List.getElem?_eq_getElem (by omega)) (by rw [show n - 1 + 1 = n from by omega]; exact List.getElem?_eq_getElem (by omega))
    by_cases e : i = n - 1
    · subst e; exact hl
    · have h3 := List.pairwise_iff_getElem.1 ih i (n - 1) (by rw [List.length_take]; omega) (by rw [List.length_take]; omega) (by omega)
      rw [List.getElem_take, List.getElem_take] at h3
      exact ordR_is.lt h3 (by omega)
open Classical in
theorem upsB_yes {t : List (List Vl)} (h0 : ∀ (j : Nat) (x y : List Vl), t[j]? = some x → t[j + 1]? = some y → ordR x y < 0) : upsB t = true := by
  have := ups_of (t := t) t.length (Nat.le_refl _) fun j x y _ => h0 j x y
  rw [List.take_length] at this
  cases h : upsB t with
  | true => rfl
  | false =>
    unfold upsB at h
    exact absurd this (of_decide_eq_false h)
open Classical in
theorem upsB_iff {t : List (List Vl)} : upsB t = true ↔ Ups ordR t := by
  constructor
  · intro h
    unfold upsB at h
    exact of_decide_eq_true h
  · intro h
    cases h2 : upsB t with
    | true => rfl
    | false =>
      unfold upsB at h2
      exact absurd h (of_decide_eq_false h2)

set_option maxRecDepth 100000 in
set_option maxHeartbeats 2000000 in
theorem rise_any (A : Option Addr) (c : Nat) (R : List Rw) (w : World) (hs : SlR w w.heap.size A R) (hl : R.length ≤ 1000000000) :
    Calls Try.prog 77 #[.slice A R.length c] w fun e w' => e = .returned (.bool (upsB (txR R))) ∧ Below w.heap.size w w' := by
  have HS := Lib.hid hs
  clear hs
  go_enter Try.func77, Try.ntmps77
  go_wp2
  go_loopg [3] (R.length + 1) (fun g x3 wr => ∃ j : Nat, x3 = .int .i64 j ∧ 1 ≤ j ∧ j ≤ R.length + 1 ∧ R.length + 1 - j ≤ g ∧ Hid (∀ (i : Nat) (x y : List Vl), i + 1 < j → (txR R)[i]? = some x → (txR R)[i + 1]? = some y → ordR x y < 0) ∧ Hid (Below w.heap.size w wr))
  case atStart => exact ⟨1, rfl, Nat.le_refl _, by omega, by omega, fun i x y h => absurd h (by omega), Below.refl _ _⟩
  case round =>
    obtain ⟨j, rfl, hj1, hj2, hj3, HJ, HB⟩ := hrel
    by_cases h1 : j < R.length
    · have h1i : (j : Int) < (R.length : Int) := by omega
      have hw1 : IntKind.i64.wrap ((j : Int) - 1) = ((j - 1 : Nat) : Int) := by
        rw [show ((j - 1 : Nat) : Int) = (j : Int) - 1 from by omega]; exact IntWalk.i64_in _ (by omega)
      have hj0 : j - 1 < R.length := by omega
      obtain ⟨e1, o1, r3, rfl, hlt1, hr3, p3, hok3⟩ := (HS.out.up HB.out (Nat.le_refl _)).at_ hj0
      obtain ⟨e1', o1', r4, hA1', _, hr4, p4, hok4⟩ := (HS.out.up HB.out (Nat.le_refl _)).at_ h1
      injection hA1' with hA1'
      injection hA1' with hx1 hx2
      subst hx1 hx2
      have HCA := Lib.hid (fun W (hb : Below wr.heap.size wr W) => cmpR_any r3 r4 W (hok3.up hb (Nat.le_refl _)) (hok4.up hb (Nat.le_refl _)))
      have HR3 := Lib.hid (txR_at hr3)
      have HR4 := Lib.hid (txR_at hr4)
      obtain ⟨A3, c3, l3⟩ := r3
      obtain ⟨A4, c4, l4⟩ := r4
      unfold cellR at HCA
      obtain ⟨q, hq⟩ : ∃ q, ordR l3 l4 = q := ⟨_, rfl⟩
      have HQ := Lib.hid hq
      rw [hq] at HCA
      have HSD1 := Lib.hid (CsA.start p3 p4 hlt1 hlt1)
      obtain ⟨wd1, hwd1⟩ : ∃ wd, wr.drew = wd := ⟨_, rfl⟩
      rw [hwd1] at HSD1
      clear hok3 hok4 hr3 hr4 hq p3 p4
      go_wp2_with fail
      refine wp_region_held_drew (S := CsA wr ⟨e1, o1 + (j - 1), none⟩ ⟨e1, o1 + j, none⟩ (.slice A3 l3.length c3) (.slice A4 l4.length c4)) (by kernel_rfl) (by rw [hwd1]; exact HSD1.out) (fun hHeld => ?_)
      rw [hwd1] at hHeld ⊢
      clear hwd1
      refine takeV 0 (some 10) ((.slice (some ⟨e1, o1, none⟩) R.length c)) rfl rfl (by kernel_rfl) (by kernel_rfl) (by kernel_rfl) (fun _ _ _ h => h) (by rfl) (by (intro _w _hSw; (try dsimp only at _hSw); go_simp)) (by assumption) ?_
      simp only [Act.put, List.setIfInBounds_toArray, List.set_cons_zero, List.set_cons_succ]
      refine takeV 1 (some 11) ((.int .i64 j)) rfl rfl (by kernel_rfl) (by kernel_rfl) (by kernel_rfl) (fun _ _ _ h => h) (by rfl) (by (intro _w _hSw; (try dsimp only at _hSw); go_simp)) (by assumption) ?_
      simp only [Act.put, List.setIfInBounds_toArray, List.set_cons_zero, List.set_cons_succ]
      refine takeV 2 (some 12) ((.int .i64 ((j - 1 : Nat) : Int))) rfl rfl (by kernel_rfl) (by kernel_rfl) (by kernel_rfl) (fun _ _ _ h => h) (by rfl) (by (intro _w _hSw; (try dsimp only at _hSw); go_simp)) (by assumption) ?_
      simp only [Act.put, List.setIfInBounds_toArray, List.set_cons_zero, List.set_cons_succ]
      refine takeV 3 (some 13) ((.pointer (some ⟨e1, o1 + (j - 1), none⟩))) rfl rfl (by kernel_rfl) (by kernel_rfl) (by kernel_rfl) (fun _ _ _ h => h) (by rfl) (by (intro _w _hSw; (try dsimp only at _hSw); go_simp)) (by assumption) ?_
      simp only [Act.put, List.setIfInBounds_toArray, List.set_cons_zero, List.set_cons_succ]
      refine takeV 4 (some 14) ((.slice A3 l3.length c3)) rfl rfl (by kernel_rfl) (by kernel_rfl) (by kernel_rfl) (fun _ _ _ h => h) (by rfl) (by (intro _w hSw; have k0 := hSw.1; clear hSw; go_simp)) (by assumption) ?_
      simp only [Act.put, List.setIfInBounds_toArray, List.set_cons_zero, List.set_cons_succ]
      refine takeV 5 (some 15) ((.slice (some ⟨e1, o1, none⟩) R.length c)) rfl rfl (by kernel_rfl) (by kernel_rfl) (by kernel_rfl) (fun _ _ _ h => h) (by rfl) (by (intro _w _hSw; (try dsimp only at _hSw); go_simp)) (by assumption) ?_
      simp only [Act.put, List.setIfInBounds_toArray, List.set_cons_zero, List.set_cons_succ]
      refine takeV 6 (some 16) ((.int .i64 j)) rfl rfl (by kernel_rfl) (by kernel_rfl) (by kernel_rfl) (fun _ _ _ h => h) (by rfl) (by (intro _w _hSw; (try dsimp only at _hSw); go_simp)) (by assumption) ?_
      simp only [Act.put, List.setIfInBounds_toArray, List.set_cons_zero, List.set_cons_succ]
      refine takeV 7 (some 17) ((.pointer (some ⟨e1, o1 + j, none⟩))) rfl rfl (by kernel_rfl) (by kernel_rfl) (by kernel_rfl) (fun _ _ _ h => h) (by rfl) (by (intro _w _hSw; (try dsimp only at _hSw); go_simp)) (by assumption) ?_
      simp only [Act.put, List.setIfInBounds_toArray, List.set_cons_zero, List.set_cons_succ]
      refine takeV 8 (some 18) ((.slice A4 l4.length c4)) rfl rfl (by kernel_rfl) (by kernel_rfl) (by kernel_rfl) (fun _ _ _ h => h) (by rfl) (by (intro _w hSw; have k0 := hSw.2.1; clear hSw; go_simp)) (by assumption) ?_
      simp only [Act.put, List.setIfInBounds_toArray, List.set_cons_zero, List.set_cons_succ]
      refine callV 9 rfl (by kernel_rfl) (by rfl) (fun K hK => ?_)
      go_simp
      refine (HCA.out _ hHeld.2.2.2).mono ?_
      rintro e w3 ⟨rfl, hb3⟩
      have HB3 := Lib.hid ((hHeld.next hb3).2.2.2)
      refine hK.out _ _ (hHeld.next hb3) (fun _ => ?_)
      clear hK K hHeld hb3
      try simp only [Act.put, List.setIfInBounds_toArray, List.set_cons_zero, List.set_cons_succ]
      clear HSD1
      by_cases hq0 : 0 ≤ q
      · have hq1 : True := trivial
        clear hq1
        refine takeV 10 (some 20) ((.bool true)) rfl rfl (by kernel_rfl) (by kernel_rfl) (by kernel_rfl) (fun _ _ _ h => h) (by rfl) (by (intro _w _hSw; (try dsimp only at _hSw); go_simp)) (by assumption) ?_
        simp only [Act.put, List.setIfInBounds_toArray, List.set_cons_zero, List.set_cons_succ]
        refine wpAnyH_done (by kernel_rfl) ?_ _
        have HE : Hid (upsB (txR R) = false) := upsB_no HR3.out (by rw [show j - 1 + 1 = j from by omega]; exact HR4.out) (by rw [HQ.out]; omega)
        go_wp2
        go_ret
        exact ⟨ret_bool (by rw [HE.out]), HB.out.trans (HB3.out.mono HB.out.size)⟩
      · have hq1 : True := trivial
        clear hq1
        refine takeV 10 (some 20) ((.bool false)) rfl rfl (by kernel_rfl) (by kernel_rfl) (by kernel_rfl) (fun _ _ _ h => h) (by rfl) (by (intro _w _hSw; (try dsimp only at _hSw); go_simp)) (by assumption) ?_
        simp only [Act.put, List.setIfInBounds_toArray, List.set_cons_zero, List.set_cons_succ]
        refine wpAnyH_done (by kernel_rfl) ?_ _
        have HE : Hid (∀ (i : Nat) (x y : List Vl), i + 1 < j + 1 → (txR R)[i]? = some x → (txR R)[i + 1]? = some y → ordR x y < 0) := fun i x y h1 h2 h3 => by
          by_cases e : i = j - 1
          · subst e
            rw [show j - 1 + 1 = j from by omega, HR4.out] at h3
            rw [HR3.out] at h2
            rw [← Option.some.inj h2, ← Option.some.inj h3, HQ.out]; omega
          · exact HJ.out i x y (by omega) h2 h3
        go_wp2
        go_roundg (R.length + 1 - (j + 1))
        case measure => omega
        case rel => exact ⟨j + 1, by go_num, by omega, by omega, Nat.le_refl _, HE.out, HB.out.trans (HB3.out.mono HB.out.size)⟩
    · have h1i : ¬ (j : Int) < (R.length : Int) := by omega
      have HE : Hid (upsB (txR R) = true) := upsB_yes fun i x y h2 h3 => HJ.out i x y (by have := (List.getElem?_eq_some_iff.1 h3).1; rw [txR_len] at this; omega) h2 h3
      go_wp2
      go_ret
      exact ⟨ret_bool (by rw [HE.out]), HB.out⟩
/-- may a relation be? -/
noncomputable def mayRel (cols : List ByteArray) (R : List Rw) : Bool := colsB cols && decide (R.length ≤ 100000) && longB cols.length R && upsB (txR R)
set_option maxRecDepth 100000 in
set_option maxHeartbeats 2000000 in
theorem may_any (A : Option Addr) (c : Nat) (cols : List ByteArray) (A' : Option Addr) (c' : Nat) (R : List Rw) (w : World) (hc : SlC w w.heap.size A cols) (hR : SlR w w.heap.size A' R) (hcc : cols.length ≤ c) (hl : cols.length ≤ 1000000000) (hl' : R.length ≤ 1000000000) :
    Calls Try.prog 38 #[.agg #[.slice A cols.length c, .slice A' R.length c']] w fun e w' => e = .returned (.bool (mayRel cols R)) ∧ Below w.heap.size w w' := by
  obtain ⟨wa, hwa⟩ : ∃ wa, w.alloc (.cells #[.slice A cols.length c, .slice A' R.length c'] 34) = wa := ⟨_, rfl⟩
  have hza : wa.heap.size = w.heap.size + 1 := by rw [← hwa]; simp
  have hba : Below w.heap.size w wa := by rw [← hwa]; exact (Below.refl _ _).alloc (Nat.le_refl _) _
  have a0 : wa.cell? ⟨w.heap.size, 0, none⟩ = some (.slice A cols.length c) := by rw [← hwa, World.cell?_alloc_new]; rfl
  have a1 : wa.cell? ⟨w.heap.size, 1, none⟩ = some (.slice A' R.length c') := by rw [← hwa, World.cell?_alloc_new]; rfl
  have HCE := Lib.hid (show wa.cell? ⟨w.heap.size, 0, none⟩ = _ ∧ wa.cell? ⟨w.heap.size, 1, none⟩ = _ ∧ w.heap.size < wa.heap.size from ⟨a0, a1, by omega⟩)
  have HBA := Lib.hid hba
  have HA := Lib.hid (areCols_any A c cols wa w.heap.size (hc.next hba (Nat.le_refl _)) (by omega) hcc)
  have HLO := Lib.hid (areAsLong_any cols.length A' c' R wa wa.heap.size (hR.up hba (Nat.le_refl _)) (Nat.le_refl _) (by omega))
  have HRI := Lib.hid (fun W (hb : Below wa.heap.size wa W) => rise_any A' c' R W ((hR.up hba (Nat.le_refl _)).up hb (Nat.le_refl _)) hl')
  clear hc hR hza hba
  by_cases h1 : colsB cols = true
  · rw [h1] at HA
    by_cases h2 : R.length ≤ 100000
    · have h2i : (R.length : Int) ≤ 100000 := by omega
      by_cases h3 : longB cols.length R = true
      · rw [h3] at HLO
        have HE : Hid (mayRel cols R = upsB (txR R)) := by show _ = _; unfold mayRel; rw [h1, h3, decide_eq_true h2]; rfl
        clear h1 h3
        go_enter Try.func38, Try.ntmps38
        go_wp2_with fail
        refine HA.out.mono ?_
        rintro e w' ⟨rfl, rfl⟩
        go_wp2_with fail
        refine HLO.out.mono ?_
        rintro e w2 ⟨rfl, hb2⟩
        have HB2 := Lib.hid hb2
        have a1 := (hb2.cell (p := ⟨w.heap.size, 1, none⟩) HCE.out.2.2).trans HCE.out.2.1
        clear a0 hb2 hwa
        go_wp2_with fail
        refine (HRI.out _ HB2.out).mono ?_
        rintro e w3 ⟨rfl, hb3⟩
        have HB3 := Lib.hid (HBA.out.trans ((HB2.out.trans (hb3.mono HB2.out.size)).mono HBA.out.size))
        clear hb3
        go_wp2
        go_ret
        exact ⟨ret_bool (by rw [HE.out]), HB3.out⟩
      · rw [Bool.not_eq_true] at h3
        rw [h3] at HLO
        have HE : Hid (mayRel cols R = false) := by show _ = _; unfold mayRel; rw [h3, Bool.and_false]; rfl
        clear h1 h3
        go_enter Try.func38, Try.ntmps38
        go_wp2_with fail
        refine HA.out.mono ?_
        rintro e w' ⟨rfl, rfl⟩
        go_wp2_with fail
        refine HLO.out.mono ?_
        rintro e w2 ⟨rfl, hb2⟩
        have HB2 := Lib.hid (HBA.out.trans (hb2.mono HBA.out.size))
        clear a0 hb2 hwa
        go_wp2
        go_ret
        exact ⟨ret_bool (by rw [HE.out]), HB2.out⟩
    · have h2i : ¬ (R.length : Int) ≤ 100000 := by omega
      have HE : Hid (mayRel cols R = false) := by show _ = _; unfold mayRel; rw [decide_eq_false h2, Bool.and_false]; rfl
      clear h1
      go_enter Try.func38, Try.ntmps38
      go_wp2_with fail
      refine HA.out.mono ?_
      rintro e w' ⟨rfl, rfl⟩
      go_wp2
      go_ret
      exact ⟨ret_bool (by rw [HE.out]), HBA.out⟩
  · rw [Bool.not_eq_true] at h1
    rw [h1] at HA
    have HE : Hid (mayRel cols R = false) := by show _ = _; unfold mayRel; rw [h1]; rfl
    clear h1
    go_enter Try.func38, Try.ntmps38
    go_wp2_with fail
    refine HA.out.mono ?_
    rintro e w' ⟨rfl, rfl⟩
    go_wp2
    go_ret
    exact ⟨ret_bool (by rw [HE.out]), HBA.out⟩
end Go.Proofs.Ytofmfainhflmmaa

/-
  WORDS for relations that are answered: rows that sorted leaves; RelEnd.
-/
namespace Go.Proofs.Ytofmfainhflmmaa
open Go.RowKit

theorem owns_apart {W : World} {B B' : Nat} {t t' : TypeId} {k k' n n' : Nat} {v v' : Value} {xs xs' : List Value} (h : W.ownsRow B t k v n xs) (h' : W.ownsRow B' t' k' v' n' xs') (ht : t ≠ t') : ∀ b1 b2 n1 k1 n2 k2, v = .slice (some b1) n1 k1 → v' = .slice (some b2) n2 k2 → b1.block ≠ b2.block := by
  intro b1 b2 n1 k1 n2 k2 e1 e2 e3
  subst e1 e2
  rcases h.2 with ⟨ea, _⟩ | ⟨g, cap, cur, ea, _, hga, _⟩
  · cases ea
  · rcases h'.2 with ⟨eb, _⟩ | ⟨g', cap', cur', eb, _, hgb, _⟩
    · cases eb
    · injection ea with ea
      injection ea with ea
      injection eb with eb
      injection eb with eb
      rw [ea, eb] at e3
      simp only at e3
      subst e3
      rw [hga] at hgb
      injection hgb with hgb
      injection hgb with _ hgb _
      exact ht hgb
theorem owns_kp {W W' : World} {B B' g c : Nat} {t t' : TypeId} {k k' n n' m : Nat} {v : Value} {xs xs' : List Value} (h : W.ownsRow B t k v n xs) (h' : W.ownsRow B' t' k' (.slice (some ⟨g, 0, none⟩) m c) n' xs') (ht : t ≠ t') (hk : Kp g W W') : W'.ownsRow B t k v n xs := by
  refine ⟨h.1, ?_⟩
  rcases h.2 with h0 | ⟨g1, cap, cur, h1, h2, h3, h4⟩
  · exact .inl h0
  · refine .inr ⟨g1, cap, cur, h1, h2, (hk.b g1 ?_ (Array.getElem?_eq_some_iff.1 h3).1).trans h3, h4⟩
    intro e
    exact owns_apart h h' ht _ _ _ _ _ _ h1 rfl e
theorem ownR_rwN {W : World} {B : Nat} {v : Value} {R : List Rw} (h : OwnR W B v R) (g : Nat) (hv : ∃ n c, v = .slice (some ⟨g, 0, none⟩) n c) : ∀ r ∈ R, RwN W g r := fun r hr => by
  obtain ⟨n, c, rfl⟩ := hv
  refine ⟨(h.i r hr).rwOk (h.z r hr), fun hne b o e e2 => ?_⟩
  have := owns_apart (h.i r hr) h.o (by decide) ⟨b, o, none⟩ ⟨g, 0, none⟩ _ _ _ _ (by unfold cellR; rw [e]) rfl
  exact this e2
/-- what sorted answers, of rows that are the call's own -/
theorem sorted_own {w w' : World} {B : Nat} {v : Value} {R : List Rw} {e : Ending} (ho : OwnR w B v R)
    (h : ∃ A n c, v = .slice A n c ∧ (∀ a, A = some a → ∃ g, a = ⟨g, 0, none⟩ ∧ B ≤ g ∧ g < w.heap.size) ∧ SortEnd R w A e w') :
    ∃ A c R', e = .returned (.slice A R'.length c) ∧ AnsR w' B (.slice A R'.length c) R' ∧ txR R' = putsG ordR (txR R) ∧ Below B w w' ∧ (∀ a, A = some a → ∃ n c, v = .slice (some a) n c) ∧ (∀ (v2 : Value) (l : List ByteArray) B2, OwnC w B2 v2 l → OwnC w' B2 v2 l) := by
  obtain ⟨A, n, c, rfl, hg, R', c', ht, hin, he, hlc, hcm, hs, hrow, hn⟩ := h
  have hans := ho.ans
  obtain ⟨A1, c1, e1, _, _, _, _, hap⟩ := hans.f
  injection e1 with e1 e2 e3
  subst e1 e2 e3
  refine ⟨A, c', R', he, ⟨⟨A, c', rfl, hs, hlc, hcm, fun e => (hn e).2, fun x hx hne a b ha hb => hap x (hin x hx) hne a b ha hb⟩, fun x hx => ?_, fun x hx => ho.z x (hin x hx)⟩, ht, ?_, fun a e => ⟨_, _, by rw [e]⟩, fun v2 l B2 hc => ?_⟩
  · cases A with
    | none => rw [← (hn rfl).1]; exact ho.i x (hin x hx)
    | some a =>
      obtain ⟨g, rfl, _, _⟩ := hg a rfl
      exact owns_kp (ho.i x (hin x hx)) ho.o (by decide) (hrow g rfl).2
  · cases A with
    | none => rw [← (hn rfl).1]; exact Below.refl _ _
    | some a =>
      obtain ⟨g, rfl, h1, h2⟩ := hg a rfl
      exact (hrow g rfl).2.below h1 h2
  · cases A with
    | none => rw [← (hn rfl).1]; exact hc
    | some a =>
      obtain ⟨g, rfl, h1, h2⟩ := hg a rfl
      exact owns_kp hc ho.o (by decide) (hrow g rfl).2
/-- a relation that the program answers, with its error -/
def RelEnd (w : World) (cols : List ByteArray) (T : List (List Vl)) (code : Int) (e : Ending) (w' : World) : Prop :=
  Below w.heap.size w w' ∧ ∃ vc vr c2 R2, e = .returned (.tuple #[.agg #[vc, vr], .int .i64 code]) ∧ OwnC w' w.heap.size vc c2 ∧ AnsR w' w.heap.size vr R2 ∧ (∀ b1 b2 n1 k1 n2 k2, vc = .slice (some b1) n1 k1 → vr = .slice (some b2) n2 k2 → b1.block ≠ b2.block) ∧ (∀ a n c, vr = .slice (some a) n c → w.heap.size ≤ a.block) ∧ c2 = (if code = 0 then cols else []) ∧ txR R2 = (if code = 0 then T else [])
theorem relEnd_no {w w' : World} {cols : List ByteArray} {T : List (List Vl)} {code : Int} (hc : code ≠ 0) (hb : Below w.heap.size w w') : RelEnd w cols T code (.returned (.tuple #[.agg #[.slice none 0 0, .slice none 0 0], .int .i64 code])) w' :=
  ⟨hb, _, _, [], [], rfl, own1_nil _ _ _ _, ansR_nil _ _, (fun b1 b2 n1 k1 n2 k2 e1 => by cases e1), (fun a n c e => by cases e), by rw [if_neg hc], by rw [if_neg hc]; rfl⟩
theorem RelEnd.of_of {w w' : World} {cols : List ByteArray} {R : List Rw} {e : Ending} (h : OfEnd w cols R e w') : RelEnd w cols (putsG ordR (txR R)) (ofC cols R) e w' := by
  obtain ⟨hb, vc, vr, he, h⟩ := h
  have hfl : ∀ a n c, vr = .slice (some a) n c → w.heap.size ≤ a.block := fun a n c e => by
    rcases h with ⟨_, _, R', hr, _⟩ | ⟨_, _, e2⟩
    · obtain ⟨A, c', e2, _, _, _, _, hg⟩ := hr.form
      rw [e] at e2
      injection e2 with e2
      obtain ⟨g, e3, h1, _⟩ := hg a e2.symm
      rw [e3]; exact h1
    · rw [e] at e2; cases e2
  obtain ⟨c2, R2, h1, h2, h3, h4, h5⟩ := ofEnd_ans h
  exact ⟨hb, vc, vr, c2, R2, he, h1, h2, h3, hfl, h4, h5⟩
theorem AnsR.set {W : World} {B : Nat} {v : Value} {R : List Rw} (h : AnsR W B v R) {b : Nat} (hb : b < B) (hB : ∀ A n c, v = .slice (some A) n c → B ≤ A.block) (o : Nat) (u : Value) : AnsR (W.setCell ⟨b, o, none⟩ u) B v R := by
  obtain ⟨⟨A, c, e, hs, h1, h2, h3, h4⟩, hi, hz⟩ := h
  refine ⟨⟨A, c, e, fun hne => ?_, h1, h2, h3, h4⟩, fun x hx => owns_set (hi x hx) hb o u, hz⟩
  obtain ⟨g, og, eA, hlt, hc⟩ := hs hne
  refine ⟨g, og, eA, by simpa using hlt, fun j x hx => ?_⟩
  have hBg : B ≤ g := hB ⟨g, og, none⟩ _ _ (by rw [e, eA])
  rw [World.cell?_setCell_other _ _ _ _ (by intro h; injection h with h; omega)]
  exact hc j x hx
theorem AnsR.low {W : World} {B B' : Nat} {v : Value} {R : List Rw} (h : AnsR W B v R) (hB : B' ≤ B) : AnsR W B' v R := ⟨h.f, fun x hx => (h.i x hx).low hB, h.z⟩
end Go.Proofs.Ytofmfainhflmmaa

/-
  CONTRACT: rows.Project.
-/
namespace Go.Proofs.Ytofmfainhflmmaa
open Go.RowKit

/-- what Project says of its error -/
noncomputable def projC (cols0 : List ByteArray) (R : List Rw) (cols : List ByteArray) : Int := if mayRel cols0 R = true ∧ colsB cols = true ∧ inB cols cols0 = true then 0 else 2
/-- the rows that Project answers -/
noncomputable def projT (cols0 : List ByteArray) (R : List Rw) (cols : List ByteArray) : List (List Vl) := putsG ordR ((txR R).map (pickV (plN cols cols0)))
theorem mayRel_long {cols : List ByteArray} {R : List Rw} (h : mayRel cols R = true) : longB cols.length R = true := by
  unfold mayRel at h
  rw [Bool.and_eq_true, Bool.and_eq_true] at h
  exact h.1.2
theorem longB_all {n : Nat} {R : List Rw} (h : longB n R = true) : ∀ r ∈ R, r.l.length = n := fun r hr => by
  unfold longB at h
  rw [List.all_eq_true] at h
  simpa using h r hr
theorem zOk_pick {I : List Nat} {l : List Vl} (hz : zOk l) (hi : ∀ i ∈ I, i < l.length) : zOk (pickV I l) := fun v hv => by
  unfold pickV at hv
  obtain ⟨i, hm, rfl⟩ := List.mem_map.1 hv
  rw [getElem!_pos l i (hi i hm)]
  exact hz _ (List.getElem_mem _)
/-- two blocks that a call makes at first: its relation, its answer -/
structure Two (w w0 : World) (v0 v1 : Value) : Prop where
  b : Below w.heap.size w w0
  a0 : w0.cell? ⟨w.heap.size, 0, none⟩ = some v0
  a1 : w0.cell? ⟨w.heap.size, 1, none⟩ = some v1
  c0 : w0.cell? ⟨w.heap.size + 1, 0, none⟩ = some (.slice none 0 0)
  c1 : w0.cell? ⟨w.heap.size + 1, 1, none⟩ = some (.slice none 0 0)
  f0 : w0.frozen? ⟨w.heap.size + 1, 0, none⟩ = false
  f1 : w0.frozen? ⟨w.heap.size + 1, 1, none⟩ = false
  lt : w.heap.size + 1 < w0.heap.size
theorem two_new (w : World) (v0 v1 : Value) (t : TypeId) : Two w ((w.alloc (.cells #[v0, v1] t)).alloc (.cells #[.slice none 0 0, .slice none 0 0] t)) v0 v1 := by
  have hs : (w.alloc (.cells #[v0, v1] t)).heap.size = w.heap.size + 1 := by simp
  have hb1 : Below w.heap.size w (w.alloc (.cells #[v0, v1] t)) := (Below.refl _ _).alloc (Nat.le_refl _) _
  have hb2 : Below (w.heap.size + 1) (w.alloc (.cells #[v0, v1] t)) ((w.alloc (.cells #[v0, v1] t)).alloc (.cells #[.slice none 0 0, .slice none 0 0] t)) := by
    rw [← hs]; exact (Below.refl _ _).alloc (Nat.le_refl _) _
  have hn : ∀ i, ((w.alloc (.cells #[v0, v1] t)).alloc (.cells #[.slice none 0 0, .slice none 0 0] t)).cell? ⟨w.heap.size + 1, i, none⟩ = #[Value.slice none 0 0, .slice none 0 0][i]? := fun i => by
    rw [← hs, World.cell?_alloc_new]
  have hf : ∀ i, ((w.alloc (.cells #[v0, v1] t)).alloc (.cells #[.slice none 0 0, .slice none 0 0] t)).frozen? ⟨w.heap.size + 1, i, none⟩ = false := fun i => by
    rw [← hs]; simp
  refine ⟨hb1.trans (hb2.mono (by omega)), ?_, ?_, hn 0, hn 1, hf 0, hf 1, by simp⟩
  · rw [hb2.cell (p := ⟨w.heap.size, 0, none⟩) (by show w.heap.size < _; omega), World.cell?_alloc_new]; rfl
  · rw [hb2.cell (p := ⟨w.heap.size, 1, none⟩) (by show w.heap.size < _; omega), World.cell?_alloc_new]; rfl
theorem Two.next {w w0 w1 : World} {v0 v1 : Value} (h : Two w w0 v0 v1) (hb : Below w0.heap.size w0 w1) : Two w w1 v0 v1 := by
  have hl := h.lt
  exact ⟨h.b.trans (hb.mono h.b.size), (hb.cell (p := ⟨w.heap.size, 0, none⟩) (by show w.heap.size < _; omega)).trans h.a0, (hb.cell (p := ⟨w.heap.size, 1, none⟩) (by show w.heap.size < _; omega)).trans h.a1, (hb.cell (p := ⟨w.heap.size + 1, 0, none⟩) hl).trans h.c0, (hb.cell (p := ⟨w.heap.size + 1, 1, none⟩) hl).trans h.c1, (hb.frozen (p := ⟨w.heap.size + 1, 0, none⟩) hl).trans h.f0, (hb.frozen (p := ⟨w.heap.size + 1, 1, none⟩) hl).trans h.f1, Nat.lt_of_lt_of_le hl hb.size⟩
theorem Two.keep {w w0 w1 : World} {v0 v1 : Value} (h : Two w w0 v0 v1) (hb : Below (w.heap.size + 2) w0 w1) : Two w w1 v0 v1 := by
  have hl := h.lt
  exact ⟨h.b.trans (hb.mono (by omega)), (hb.cell (p := ⟨w.heap.size, 0, none⟩) (by show w.heap.size < _; omega)).trans h.a0, (hb.cell (p := ⟨w.heap.size, 1, none⟩) (by show w.heap.size < _; omega)).trans h.a1, (hb.cell (p := ⟨w.heap.size + 1, 0, none⟩) (by show w.heap.size + 1 < _; omega)).trans h.c0, (hb.cell (p := ⟨w.heap.size + 1, 1, none⟩) (by show w.heap.size + 1 < _; omega)).trans h.c1, (hb.frozen (p := ⟨w.heap.size + 1, 0, none⟩) (by show w.heap.size + 1 < _; omega)).trans h.f0, (hb.frozen (p := ⟨w.heap.size + 1, 1, none⟩) (by show w.heap.size + 1 < _; omega)).trans h.f1, Nat.lt_of_lt_of_le hl hb.size⟩
theorem Two.set {w w0 : World} {v0 v1 : Value} (h : Two w w0 v0 v1) (u0 u1 : Value) : Below w.heap.size w ((w0.setCell ⟨w.heap.size + 1, 0, none⟩ u0).setCell ⟨w.heap.size + 1, 1, none⟩ u1) :=
  (h.b.setCell (p := ⟨w.heap.size + 1, 0, none⟩) (Nat.le_succ _) _).setCell (p := ⟨w.heap.size + 1, 1, none⟩) (Nat.le_succ _) _
/-- a relation that is answered at the second of the two -/
theorem Two.rel {w w0 : World} {v0 v1 : Value} (h : Two w w0 v0 v1) {A5 A6 : Option Addr} {c5 c6 : Nat} {cols : List ByteArray} {R : List Rw} {T : List (List Vl)} (hc : OwnC w0 (w.heap.size + 2) (.slice A5 cols.length c5) cols) (hr : AnsR w0 (w.heap.size + 2) (.slice A6 R.length c6) R) (hB : ∀ a, A6 = some a → w.heap.size + 2 ≤ a.block)
    (hap : ∀ b1 b2 n1 k1 n2 k2, (.slice A5 cols.length c5 : Value) = .slice (some b1) n1 k1 → (.slice A6 R.length c6 : Value) = .slice (some b2) n2 k2 → b1.block ≠ b2.block) (ht : txR R = T) :
    RelEnd w cols T 0 (.returned (.tuple #[.agg #[.slice A5 cols.length c5, .slice A6 R.length c6], .int .i64 0])) ((w0.setCell ⟨w.heap.size + 1, 0, none⟩ (.slice A5 cols.length c5)).setCell ⟨w.heap.size + 1, 1, none⟩ (.slice A6 R.length c6)) := by
  refine ⟨h.set _ _, _, _, cols, R, rfl, ?_, ?_, hap, (fun a n c e => by injection e with e; have := hB a e; omega), by rw [if_pos rfl], by rw [if_pos rfl]; exact ht⟩
  · exact owns_low (owns_set (owns_set hc (by omega) _ _) (by omega) _ _) (by omega : w.heap.size ≤ w.heap.size + 2)
  · have hBB : ∀ (A : Addr) (n c : Nat), (.slice A6 R.length c6 : Value) = .slice (some A) n c → w.heap.size + 2 ≤ A.block := fun A n c e => by injection e with e; exact hB A e
    exact ((hr.set (by omega) hBB 0 _).set (by omega) hBB 1 _).low (by omega)

set_option maxRecDepth 100000 in
set_option maxHeartbeats 4000000 in
theorem project_any (A0 : Option Addr) (c0 : Nat) (cols0 : List ByteArray) (A1 : Option Addr) (c1 : Nat) (R : List Rw) (A : Option Addr) (c : Nat) (cols : List ByteArray) (w : World) (hc0 : SlC w w.heap.size A0 cols0) (hR : SlR w w.heap.size A1 R) (hc : SlC w w.heap.size A cols)
    (hn : A = none → cols.length = 0 ∧ c = 0) (hcc : cols.length ≤ c) (hcc0 : cols0.length ≤ c0) (hl0 : cols0.length ≤ 1000000000) (hl1 : R.length ≤ 1000000000) (hl : cols.length ≤ 1000000000) :
    Calls Try.prog 32 #[.agg #[.slice A0 cols0.length c0, .slice A1 R.length c1], .slice A cols.length c] w (RelEnd w cols (projT cols0 R cols) (projC cols0 R cols)) := by
  have HC0 := Lib.hid hc0
  have HR := Lib.hid hR
  have HC := Lib.hid hc
  have HN := Lib.hid hn
  clear hc0 hR hc hn
  obtain ⟨w0, hw0⟩ : ∃ w0, (w.alloc (.cells #[.slice A0 cols0.length c0, .slice A1 R.length c1] 34)).alloc (.cells #[.slice none 0 0, .slice none 0 0] 34) = w0 := ⟨_, rfl⟩
  have htw : Two w w0 (.slice A0 cols0.length c0) (.slice A1 R.length c1) := by rw [← hw0]; exact two_new _ _ _ _
  have HM := Lib.hid (may_any A0 c0 cols0 A1 c1 R w0 (HC0.out.up htw.b (Nat.le_refl _)) (HR.out.up htw.b (Nat.le_refl _)) hcc0 hl0 hl1)
  have HT0 := Lib.hid htw
  obtain ⟨ya0, ya1, yc0, yc1, yf0, yf1⟩ : _ ∧ _ ∧ _ ∧ _ ∧ _ ∧ _ := ⟨htw.a0, htw.a1, htw.c0, htw.c1, htw.f0, htw.f1⟩
  have hs1 : (w.alloc (.cells #[.slice A0 cols0.length c0, .slice A1 R.length c1] 34)).heap.size = w.heap.size + 1 := by simp
  clear htw
  by_cases q1 : mayRel cols0 R = true
  · have HQ1 := Lib.hid q1
    rw [q1] at HM
    clear q1
    go_enter Try.func32, Try.ntmps32
    go_wp2_with fail
    refine HM.out.mono ?_
    rintro e w1 ⟨rfl, hb1⟩
    have HT1 := Lib.hid (HT0.out.next hb1)
    obtain ⟨xa0, xa1, xc0, xc1, xf0, xf1⟩ : _ ∧ _ ∧ _ ∧ _ ∧ _ ∧ _ := ⟨HT1.out.a0, HT1.out.a1, HT1.out.c0, HT1.out.c1, HT1.out.f0, HT1.out.f1⟩
    clear hb1 ya0 ya1 yc0 yc1 yf0 yf1 HM hw0
    have HA := Lib.hid (areCols_any A c cols w1 w1.heap.size (HC.out.up HT1.out.b (Nat.le_refl _)) (by omega) hcc)
    by_cases q2 : colsB cols = true
    · have HQ2 := Lib.hid q2
      rw [q2] at HA
      clear q2
      go_wp2_with fail
      refine HA.out.mono ?_
      rintro e w2 ⟨rfl, rfl⟩
      have HP := Lib.hid (places_any A0 c0 cols0 A c cols w1 (HC0.out.up HT1.out.b (Nat.le_refl _)) (HC.out.up HT1.out.b (Nat.le_refl _)) hl hl0)
      clear HA
      go_wp2_with fail
      refine HP.out.mono ?_
      rintro e w2 ⟨hb2, A7, c7, rfl, hpl⟩
      have HT2 := Lib.hid (HT1.out.next hb2)
      obtain ⟨za0, za1, zc0, zc1, zf0, zf1⟩ : _ ∧ _ ∧ _ ∧ _ ∧ _ ∧ _ := ⟨HT2.out.a0, HT2.out.a1, HT2.out.c0, HT2.out.c1, HT2.out.f0, HT2.out.f1⟩
      have HPL := Lib.hid hpl
      have HB2 := Lib.hid hb2
      clear hb2 xa0 xa1 xc0 xc1 xf0 xf1 HP hpl
      by_cases q3 : inB cols cols0 = true
      · have HQ3 := Lib.hid q3
        have HOP := Lib.hid (HPL.out q3)
        have HE : Hid (projC cols0 R cols = 0) := by show _ = _; unfold projC; rw [if_pos ⟨HQ1.out, HQ2.out, q3⟩]
        rw [q3]
        clear q3
        go_wp2_with fail
        obtain ⟨wd, hwd⟩ : ∃ wd, w2.drew = wd := ⟨_, rfl⟩
        have HSN : Hid (Below (w.heap.size + 1) w2 wd) := by show Below _ _ _; rw [← hwd]; exact (Below.refl _ _).drew
        have HTD : Hid (Two w wd (.slice A0 cols0.length c0) (.slice A1 R.length c1)) := by show Two _ _ _ _; rw [← hwd]; exact HT2.out.next (Below.refl _ _).drew
        have HOD : Hid (Own1 3 natV wd w1.heap.size (.slice A7 cols.length c7) (plN cols cols0)) := by show Own1 _ _ _ _ _ _; rw [← hwd]; exact HOP.out.next (Below.refl _ _).drew
        refine wp_region_held_drew (S := fun W => Below (w.heap.size + 1) w2 W) (by kernel_rfl) (by rw [hwd]; exact HSN.out) (fun hHeld => ?_)
        rw [hwd] at hHeld ⊢
        clear hwd zc0 zc1 zf0 zf1 za0 za1
        refine takeV 0 (some 27) ((.slice A cols.length c)) rfl rfl (by kernel_rfl) (by kernel_rfl) (by kernel_rfl) (fun _ _ _ h => h) (by rfl) (by (intro _w _hSw; (try dsimp only at _hSw); go_simp)) (by assumption) ?_
        simp only [Act.put, List.setIfInBounds_toArray, List.set_cons_zero, List.set_cons_succ]
        refine takeV 2 (some 29) ((.pointer (some ⟨w.heap.size, 1, none⟩))) rfl rfl (by kernel_rfl) (by kernel_rfl) (by kernel_rfl) (fun _ _ _ h => h) (by rfl) (by (intro _w _hSw; (try dsimp only at _hSw); go_simp)) (by assumption) ?_
        simp only [Act.put, List.setIfInBounds_toArray, List.set_cons_zero, List.set_cons_succ]
        refine takeV 3 (some 30) ((.slice A1 R.length c1)) rfl rfl (by kernel_rfl) (by kernel_rfl) (by kernel_rfl) (fun _ _ _ h => h) (by rfl) (by (intro _w hSw; have k0 := (Below.cell (p := ⟨w.heap.size, 1, none⟩) hSw (Nat.lt_succ_self _)).trans HT2.out.a1; clear hSw; go_simp)) (by assumption) ?_
        simp only [Act.put, List.setIfInBounds_toArray, List.set_cons_zero, List.set_cons_succ]
        refine takeV 4 (some 31) ((.slice A7 cols.length c7)) rfl rfl (by kernel_rfl) (by kernel_rfl) (by kernel_rfl) (fun _ _ _ h => h) (by rfl) (by (intro _w _hSw; (try dsimp only at _hSw); go_simp)) (by assumption) ?_
        simp only [Act.put, List.setIfInBounds_toArray, List.set_cons_zero, List.set_cons_succ]
        have HCL := Lib.hid (cloneS_any A c cols wd wd.heap.size (HC.out.up HTD.out.b (Nat.le_refl _)) HN.out (Nat.le_refl _) (by omega))
        refine callV 1 rfl (by kernel_rfl) (by rfl) (fun K hK => ?_)
        go_simp
        refine HCL.out.mono ?_
        rintro e w3 ⟨v3, rfl, ho3, hb3⟩
        obtain ⟨A5, c5, rfl, _⟩ := ho3.form
        have HT3 := Lib.hid (HTD.out.next hb3)
        have HO3 := Lib.hid ho3
        have HOD3 := Lib.hid (HOD.out.next hb3)
        refine hK.out _ _ (hHeld.trans (hb3.mono (Nat.le_of_lt HTD.out.lt))) (fun hHeld3 => ?_)
        clear hK K hHeld hb3 ho3 HCL
        try simp only [Act.put, List.setIfInBounds_toArray, List.set_cons_zero, List.set_cons_succ]
        have HPI := Lib.hid (picker_any A7 cols.length c7 w3)
        refine callV 5 rfl (by kernel_rfl) (by rfl) (fun K hK => ?_)
        go_simp
        refine HPI.out.mono ?_
        rintro e w4 ⟨rfl, hw4⟩
        have hb4 : Below w3.heap.size w3 w4 := by rw [hw4]; exact (Below.refl _ _).alloc (Nat.le_refl _) _
        have hx4 : w4.cell? ⟨w3.heap.size, 0, none⟩ = some (.slice A7 cols.length c7) := by rw [hw4]; exact cells_new _ _ _
        have hl4 : w3.heap.size < w4.heap.size := by rw [hw4]; simp
        have HT4 := Lib.hid (HT3.out.next hb4)
        have HO4 := Lib.hid (HO3.out.next hb4)
        have HPN : Hid ((plN cols cols0).length = cols.length) := by show _ = _; unfold plN; exact List.length_map ..
        have hod4 := HOD3.out.next hb4
        obtain ⟨A8, c8, e8, hs8, _⟩ := hod4.form
        rw [HPN.out] at e8
        injection e8 with e8 _ e9
        subst e8 e9
        have HLT : Hid (∀ r ∈ R, ∀ i ∈ plN cols cols0, i < r.l.length) := fun r hr i hi => by rw [longB_all (mayRel_long HQ1.out) r hr]; exact plN_lt HQ3.out i hi
        have hr4 := HR.out.up HT4.out.b (Nat.le_refl _)
        have HGA := Lib.hid (gathR_any 107 #[.pointer (some ⟨w3.heap.size, 0, none⟩)] (pickV (plN cols cols0)) A1 c1 R w4 hr4 (by omega) eg_picker (becomes_pick w3.heap.size A7 c7 (plN cols cols0) (by rw [HPN.out]; exact hx4) hl4 hs8 (by rw [HPN.out]; exact hl) hr4.r HLT.out) fun r hr => zOk_pick (hr4.r r hr).z (HLT.out r hr))
        refine hK.out _ _ (hHeld3.trans (hb4.mono (Nat.le_of_lt HT3.out.lt))) (fun hHeld4 => ?_)
        clear hK K hHeld3 hb4 hx4 hl4 hod4 hs8 hr4 HPI hw4
        try simp only [Act.put, List.setIfInBounds_toArray, List.set_cons_zero, List.set_cons_succ]
        refine callV 6 rfl (by kernel_rfl) (by rfl) (fun K hK => ?_)
        go_simp
        refine HGA.out.mono ?_
        rintro e w5 ⟨v5, R5, rfl, ho5, ht5, hb5⟩
        obtain ⟨A9, c9, rfl, _, _, _, _, hg9⟩ := ho5.form
        have hl5 : R5.length = R.length := by rw [← txR_len, ht5, List.length_map]
        have HT5 := Lib.hid (HT4.out.next hb5)
        have HO5c := Lib.hid (HO4.out.next hb5)
        have HO5 := Lib.hid ho5
        have HTX5 := Lib.hid ht5
        have HG9 := Lib.hid hg9
        have HSO := Lib.hid (sorted_any w4.heap.size _ R5 w5 ho5.o (ownR_rwN ho5) (by omega))
        refine hK.out _ _ (hHeld4.trans (hb5.mono (Nat.le_of_lt HT4.out.lt))) (fun hHeld5 => ?_)
        clear hK K hHeld4 hb5 ho5 ht5 hg9 HGA hl5
        try simp only [Act.put, List.setIfInBounds_toArray, List.set_cons_zero, List.set_cons_succ]
        refine callV 7 rfl (by kernel_rfl) (by rfl) (fun K hK => ?_)
        go_simp
        refine HSO.out.mono ?_
        rintro e w6 hso
        obtain ⟨A6, c6, R6, rfl, hans, ht6, hb6, hfar, hoc⟩ := sorted_own HO5.out hso
        have HB6 := Lib.hid hb6
        have HT6 : Hid (Two w w6 (.slice A0 cols0.length c0) (.slice A1 R.length c1)) := HT5.out.keep (hb6.mono HT4.out.lt)
        have HFAR := Lib.hid hfar
        have HANS := Lib.hid hans
        have HTX6 := Lib.hid ht6
        have HO6 := Lib.hid (hoc _ _ _ HO5c.out)
        refine hK.out _ _ (hHeld5.trans (hb6.mono (Nat.le_of_lt HT4.out.lt))) (fun hHeld6 => ?_)
        clear hK K hHeld5 hb6 hso hans ht6 hfar hoc HSO
        try simp only [Act.put, List.setIfInBounds_toArray, List.set_cons_zero, List.set_cons_succ]
        refine takeV 8 (some 35) ((.agg #[.slice A5 cols.length c5, .slice A6 R6.length c6])) rfl rfl (by kernel_rfl) (by kernel_rfl) (by kernel_rfl) (fun _ _ _ h => h) (by rfl) (by (intro _w _hSw; (try dsimp only at _hSw); go_simp)) (by assumption) ?_
        simp only [Act.put, List.setIfInBounds_toArray, List.set_cons_zero, List.set_cons_succ]
        obtain ⟨zc0, zc1, zf0, zf1⟩ : _ ∧ _ ∧ _ ∧ _ := ⟨HT6.out.c0, HT6.out.c1, HT6.out.f0, HT6.out.f1⟩
        refine callV 9 rfl (by kernel_rfl) (by rfl) (fun K hK => ?_)
        go_simp
        refine hK.out _ _ ((hHeld6.setCell (p := ⟨w.heap.size + 1, 0, none⟩) (Nat.le_refl _) _).setCell (p := ⟨w.heap.size + 1, 1, none⟩) (Nat.le_refl _) _) (fun hHeld7 => ?_)
        clear hK K hHeld6
        try simp only [Act.put, List.setIfInBounds_toArray, List.set_cons_zero, List.set_cons_succ]
        refine takeV 10 (some 5) ((.int .i64 0)) rfl rfl (by kernel_rfl) (by kernel_rfl) (by kernel_rfl) (fun _ _ _ h => h) (by rfl) (by (intro _w _hSw; (try dsimp only at _hSw); go_simp)) (by assumption) ?_
        simp only [Act.put, List.setIfInBounds_toArray, List.set_cons_zero, List.set_cons_succ]
        refine wpAnyH_done (by kernel_rfl) ?_ _
        have HC2 := Lib.hid (cells_two (v0 := .slice A5 cols.length c5) (v1 := .slice A6 R6.length c6) zc0 zc1)
        clear zc0 zc1 zf0 zf1
        go_wp2
        refine bodyPost_ret (v := .tuple #[.agg #[.slice A5 cols.length c5, .slice A6 R6.length c6], .int .i64 0]) (by rw [results_ct rfl]; obtain ⟨x0, x1⟩ := HC2.out; go_simp) rfl ?_
        rw [HE.out]
        have hz1 : w.heap.size + 2 ≤ wd.heap.size := HTD.out.lt
        have hz2 : w.heap.size + 2 ≤ w4.heap.size := HT4.out.lt
        refine HT6.out.rel (owns_low HO6.out hz1) (HANS.out.low hz2) (fun a e => ?_) (fun b1 b2 n1 k1 n2 k2 e1 e2 => ?_) ?_
        · obtain ⟨n, cc, e2⟩ := HFAR.out a e
          injection e2 with e2
          obtain ⟨g, rfl, h1, _⟩ := HG9.out a e2
          exact Nat.le_trans hz2 h1
        · injection e2 with e2
          obtain ⟨n, cc, e3⟩ := HFAR.out b2 e2
          exact owns_apart HO5c.out HO5.out.o (by decide) b1 b2 n1 k1 n cc e1 e3
        · rw [HTX6.out, HTX5.out]
          unfold projT txR
          rw [List.map_map]; rfl
      · rw [Bool.not_eq_true] at q3
        have HE : Hid (projC cols0 R cols = 2) := by show _ = _; unfold projC; rw [q3, if_neg (by simp)]
        rw [q3]
        clear q3
        have HC2 := Lib.hid (cells_two (v0 := .slice none 0 0) (v1 := .slice none 0 0) zc0 zc1)
        go_wp2
        refine bodyPost_ret (v := .tuple #[.agg #[.slice none 0 0, .slice none 0 0], .int .i64 2]) (by rw [results_ct rfl]; obtain ⟨x0, x1⟩ := HC2.out; clear zc0 zc1; go_simp) rfl ?_
        rw [HE.out]
        exact relEnd_no (by decide) (HT2.out.set _ _)
    · rw [Bool.not_eq_true] at q2
      have HE : Hid (projC cols0 R cols = 2) := by show _ = _; unfold projC; rw [q2, if_neg (by simp)]
      rw [q2] at HA
      clear q2
      go_wp2_with fail
      refine HA.out.mono ?_
      rintro e w2 ⟨rfl, rfl⟩
      have HC2 := Lib.hid (cells_two (v0 := .slice none 0 0) (v1 := .slice none 0 0) xc0 xc1)
      go_wp2
      refine bodyPost_ret (v := .tuple #[.agg #[.slice none 0 0, .slice none 0 0], .int .i64 2]) (by rw [results_ct rfl]; obtain ⟨x0, x1⟩ := HC2.out; clear xc0 xc1; go_simp) rfl ?_
      rw [HE.out]
      exact relEnd_no (by decide) (HT1.out.set _ _)
  · rw [Bool.not_eq_true] at q1
    have HE : Hid (projC cols0 R cols = 2) := by show _ = _; unfold projC; rw [q1, if_neg (by simp)]
    rw [q1] at HM
    clear q1
    go_enter Try.func32, Try.ntmps32
    go_wp2_with fail
    refine HM.out.mono ?_
    rintro e w1 ⟨rfl, hb1⟩
    have HT1 := Lib.hid (HT0.out.next hb1)
    obtain ⟨xa0, xa1, xc0, xc1, xf0, xf1⟩ : _ ∧ _ ∧ _ ∧ _ ∧ _ ∧ _ := ⟨HT1.out.a0, HT1.out.a1, HT1.out.c0, HT1.out.c1, HT1.out.f0, HT1.out.f1⟩
    clear hb1 ya0 ya1 yc0 yc1 yf0 yf1 HM hw0
    have HC2 := Lib.hid (cells_two (v0 := .slice none 0 0) (v1 := .slice none 0 0) xc0 xc1)
    go_wp2
    refine bodyPost_ret (v := .tuple #[.agg #[.slice none 0 0, .slice none 0 0], .int .i64 2]) (by rw [results_ct rfl]; obtain ⟨x0, x1⟩ := HC2.out; clear xc0 xc1; go_simp) rfl ?_
    rw [HE.out]
    exact relEnd_no (by decide) (HT1.out.set _ _)
end Go.Proofs.Ytofmfainhflmmaa

/-
  CONTRACT: rows.Has.
-/
namespace Go.Proofs.Ytofmfainhflmmaa
open Go.RowKit Go.Shelf Go.Sort

open Classical in
/-- is a row there? -/
noncomputable def hasB (T : List (List Vl)) (x : List Vl) : Bool := decide (x ∈ T)
open Classical in
theorem hasB_yes {T : List (List Vl)} {x : List Vl} (h : x ∈ T) : hasB T x = true := by unfold hasB; rw [decide_eq_true h]
open Classical in
theorem hasB_no {T : List (List Vl)} {x : List Vl} (h : x ∉ T) : hasB T x = false := by unfold hasB; rw [decide_eq_false h]
theorem grow_below (w : World) (n : Nat) (os : Array Obj) : Below w.heap.size w (grow (w.drewN n) os) := by
  refine ⟨rfl, rfl, rfl, ?_, fun j hj => ?_⟩
  · unfold grow
    show _ ≤ (w.heap ++ os).size
    rw [Array.size_append]; omega
  · unfold grow
    show (w.heap ++ os)[j]? = _
    rw [Array.getElem?_append_left hj]
open Classical in
/-- where rows rise: what stands ahead of a row -/
theorem find_spec {T : List (List Vl)} (x : List Vl) (hu : Ups ordR T) (n : Nat) (hn : T.countP (fun y => decide (ordR y x < 0)) = n) : hasB T x = true ↔ ∃ h : n < T.length, T[n] = x := by
  constructor
  · intro h
    have hm : x ∈ T := by unfold hasB at h; exact of_decide_eq_true h
    obtain ⟨k, hk, e⟩ := List.getElem_of_mem hm
    have hc : T.countP (fun y => decide (ordR y x < 0)) = k := by
      apply Go.Lib.countP_boundary _ _ _ (Nat.le_of_lt hk)
      · intro t ht
        rw [getElem!_pos T t (by omega), decide_eq_true_eq, ← e]
        exact List.pairwise_iff_getElem.1 hu t k (by omega) hk ht
      · intro t h1 h2
        rw [getElem!_pos T t h2, decide_eq_false_iff_not, ← e]
        by_cases ek : t = k
        · subst ek
          rw [(ordR_is.zero _ _).2 rfl]; omega
        · have h3 : ordR T[k] T[t] < 0 := List.pairwise_iff_getElem.1 hu k t hk h2 (by omega)
          have := ordR_is.swap T[k] T[t]
          omega
    have : n = k := hn.symm.trans hc
    subst this
    exact ⟨hk, e⟩
  · rintro ⟨h, e⟩
    exact hasB_yes (e ▸ List.getElem_mem h)
set_option maxRecDepth 100000 in
set_option maxHeartbeats 1000000 in
theorem findR_any (B g cap : Nat) (R : List Rw) (x : Rw) (w : World) (hr : Own1 46 cellR w B (.slice (some ⟨g, 0, none⟩) R.length cap) R) (hg : g < w.heap.size) (hok : ∀ r ∈ R, RwN w g r) (hx : RwN w g x) (h0 : 0 < R.length) (hl : R.length ≤ 1000000000000) (hu : Ups ordR (txR R)) :
    Calls Try.prog 78 #[.slice (some ⟨g, 0, none⟩) R.length cap, cellR x, .func (.func 40) #[] #[]] w fun e w' => (∃ k : Int, e = .returned (.tuple #[.int .i64 k, .bool (hasB (txR R) x.l)])) ∧ Below w.heap.size w w' := by
  have inst : Inhabited (RwS w g) := ⟨⟨R[0], hok _ (List.getElem_mem h0)⟩⟩
  obtain ⟨ls, hls⟩ : ∃ ls : List (RwS w g), ls.map (·.1) = R := sub_list hok
  have hln : R.length = ls.length := by rw [← hls, List.length_map]
  have eg : ∀ args w, (callFunc 40 args).run Try.prog w = .ok (.enter 40 args) w := enters_of Try.func40 (by kernel_rfl) rfl
  have hr2 : w.ownsRow B 46 1 (.slice (some ⟨g, 0, none⟩) R.length cap) R.length (R.map cellR) := hr
  have hH : Holds (fun x : RwS w g => cellR x.1) w g 0 ls.toArray := fun j hj => by
    have hj2 : j < ls.length := by simpa using hj
    have hj3 : j < R.length := by omega
    rw [Nat.zero_add]
    refine ⟨?_, hr2.frozenAt j⟩
    rw [hr2.cellAt j (by omega), List.getElem?_map, ← hls, List.getElem?_map, List.getElem?_eq_getElem hj2, getElem!_pos ls.toArray j hj]
    rfl
  have hC : CmpLaysT Try.prog 40 #[] (fun y : RwS w g => cellR y.1) (cellR x) (fun y : RwS w g => ordR y.1.l x.l) g 0 ls.toArray.size w := fun m os dk _ y =>
    cmpR_grow y.1 x _ (y.2.keep swKp).ok (hx.keep swKp).ok
  have hT : txR R = ls.map (fun y => y.1.l) := by rw [← hls]; unfold txR; rw [List.map_map]; rfl
  have hgT : ∀ i (hi : i < ls.length), (txR R)[i]'(by rw [txR_len, hln]; exact hi) = (ls.toArray[i]!).1.l := fun i hi => by
    rw [getElem!_pos ls.toArray i (by simpa using hi)]
    simp [hT]
  have hcon := Any.slices_BinarySearchFunc Try.bsRow (fun y : RwS w g => cellR y.1) (fun _ => rfl) (cellR x) (fun y : RwS w g => ordR y.1.l x.l) 40 #[] g 0 cap ls.toArray w eg hC hH hg (by simp; omega) (fun a b hab hb h => by
    have hb2 : b < ls.length := by simpa using hb
    rw [← hgT b hb2] at h
    rw [← hgT a (by omega)]
    by_cases e : a = b
    · subst e; exact h
    · have h3 := List.pairwise_iff_getElem.1 hu a b (by rw [txR_len]; omega) (by rw [txR_len]; omega) (by omega)
      exact ordR_is.lt h3 (by omega))
  have hsa : ls.toArray.size = R.length := by simp; omega
  rw [hsa] at hcon
  refine (show Calls Try.prog 78 _ w _ from hcon).mono ?_
  rintro e w2 ⟨rfl, nn, os, rfl⟩
  have hcnt : ls.toArray.toList.countP (fun y : RwS w g => decide (ordR y.1.l x.l < 0)) = (txR R).countP (fun y => decide (ordR y x.l < 0)) := by
    rw [hT, List.countP_map]; rfl
  obtain ⟨n, hn⟩ : ∃ n, ls.toArray.toList.countP (fun y : RwS w g => decide (ordR y.1.l x.l < 0)) = n := ⟨_, rfl⟩
  rw [hn]
  refine ⟨⟨(n : Int), ?_⟩, ?_⟩
  · have hfs := find_spec x.l hu n (hcnt.symm.trans hn)
    have hval : (decide (n < R.length) && decide (ordR (ls.toArray[n]!).1.l x.l = 0)) = hasB (txR R) x.l := by
      rw [Bool.eq_iff_iff, hfs, Bool.and_eq_true, decide_eq_true_eq, decide_eq_true_eq]
      constructor
      · rintro ⟨h1, h2⟩
        refine ⟨by rw [txR_len]; exact h1, ?_⟩
        rw [hgT n (by omega)]
        exact (ordR_is.zero _ _).1 h2
      · rintro ⟨h1, h2⟩
        have h1' : n < R.length := by rw [txR_len] at h1; exact h1
        refine ⟨h1', ?_⟩
        rw [← hgT n (by omega), h2]
        exact (ordR_is.zero _ _).2 rfl
    rw [hval]
  · have e1 := sortWorld_grown_c (fun y : RwS w g => cellR y.1) w g 0 0 nn ls.toArray #[] os
    rw [sortWorld_start _ w g 0 ls.toArray hH] at e1
    rw [show sortWorld (fun y : RwS w g => cellR y.1) w g 0 nn ls.toArray os = grow (w.drewN nn) os from by rw [e1]; simp]
    exact grow_below w nn os
set_option maxHeartbeats 1000000 in
theorem findR_nil (A : Option Addr) (cap : Nat) (x : Rw) (w : World) :
    Calls Try.prog 78 #[.slice A 0 cap, cellR x, .func (.func 40) #[] #[]] w fun e w' => e = .returned (.tuple #[.int .i64 0, .bool false]) ∧ w' = w := by
  obtain ⟨A1, c1, l⟩ := x
  unfold cellR
  go_enter Try.func78, Try.ntmps78
  go_wp2
  refine wp_loop_rounds 1 ?_
  rw [rounds_succ]
  go_wp2
  go_ret2
  exact ⟨rfl, rfl⟩
set_option maxRecDepth 100000 in
theorem find_any (B : Nat) (v : Value) (R : List Rw) (x : Rw) (w : World) (hr : Own1 46 cellR w B v R) (hok : ∀ g, (∃ n c, v = .slice (some ⟨g, 0, none⟩) n c) → (∀ r ∈ R, RwN w g r) ∧ RwN w g x) (hl : R.length ≤ 1000000000000) (hu : Ups ordR (txR R)) :
    Calls Try.prog 78 #[v, cellR x, .func (.func 40) #[] #[]] w fun e w' => (∃ k : Int, e = .returned (.tuple #[.int .i64 k, .bool (hasB (txR R) x.l)])) ∧ Below w.heap.size w w' := by
  obtain ⟨A, c, rfl, hs, hlc, hcm, hn, hg⟩ := hr.form
  by_cases h0 : R.length = 0
  · obtain rfl : R = [] := List.length_eq_zero_iff.1 h0
    refine (findR_nil A c x w).mono ?_
    rintro e w' ⟨rfl, rfl⟩
    exact ⟨⟨0, by rw [hasB_no (by simp [txR])]⟩, Below.refl _ _⟩
  · obtain ⟨g, o, rfl, _⟩ := hs (fun e => h0 (by rw [e]; rfl))
    obtain ⟨g1, e1, hBg, hgw⟩ := hg _ rfl
    obtain ⟨rfl, rfl⟩ : g1 = g ∧ o = 0 := by injection e1 with a b; exact ⟨a.symm, b⟩
    obtain ⟨h1, h2⟩ := hok g1 ⟨_, _, rfl⟩
    exact findR_any B g1 c R x w hr hgw h1 h2 (by omega) hl hu
theorem mayRel_ups {cols : List ByteArray} {R : List Rw} (h : mayRel cols R = true) : Ups ordR (txR R) := by
  unfold mayRel at h
  rw [Bool.and_eq_true] at h
  exact upsB_iff.1 h.2
/-- what Has says -/
noncomputable def hasRel (cols0 : List ByteArray) (R : List Rw) (x : List Vl) : Bool := mayRel cols0 R && hasB (txR R) x
set_option maxRecDepth 100000 in
set_option maxHeartbeats 2000000 in
theorem has_any (A0 : Option Addr) (c0 : Nat) (cols0 : List ByteArray) (B : Nat) (A1 : Option Addr) (c1 : Nat) (R : List Rw) (x : Rw) (w : World) (hc0 : SlC w w.heap.size A0 cols0) (hR : OwnR w B (.slice A1 R.length c1) R) (hx : RwOk w B x) (hB : B ≤ w.heap.size)
    (hcc0 : cols0.length ≤ c0) (hl0 : cols0.length ≤ 1000000000) (hl1 : R.length ≤ 1000000000) :
    Calls Try.prog 39 #[.agg #[.slice A0 cols0.length c0, .slice A1 R.length c1], cellR x] w fun e w' => e = .returned (.bool (hasRel cols0 R x.l)) ∧ Below w.heap.size w w' := by
  have HC0 := Lib.hid hc0
  have HR := Lib.hid hR
  have HX := Lib.hid hx
  have HBB := Lib.hid hB
  clear hc0 hR hx hB
  obtain ⟨w0, hw0⟩ : ∃ w0, w.alloc (.cells #[.slice A0 cols0.length c0, .slice A1 R.length c1] 34) = w0 := ⟨_, rfl⟩
  have hb0 : Below w.heap.size w w0 := by rw [← hw0]; exact (Below.refl _ _).alloc (Nat.le_refl _) _
  have ya0 : w0.cell? ⟨w.heap.size, 0, none⟩ = some (.slice A0 cols0.length c0) := by rw [← hw0, World.cell?_alloc_new]; rfl
  have ya1 : w0.cell? ⟨w.heap.size, 1, none⟩ = some (.slice A1 R.length c1) := by rw [← hw0, World.cell?_alloc_new]; rfl
  have hlt : w.heap.size < w0.heap.size := by rw [← hw0]; simp
  have HLT := Lib.hid hlt
  have HB0 := Lib.hid hb0
  have HRS : Hid (SlR w w.heap.size A1 R) := by
    obtain ⟨A', c', e, hs, _⟩ := HR.out.form
    injection e with e1 e2 e3
    subst e1; exact hs
  have HM := Lib.hid (may_any A0 c0 cols0 A1 c1 R w0 (HC0.out.up hb0 (Nat.le_refl _)) (HRS.out.up hb0 (Nat.le_refl _)) hcc0 hl0 hl1)
  clear hlt hb0
  by_cases q1 : mayRel cols0 R = true
  · have HE : Hid (hasRel cols0 R x.l = hasB (txR R) x.l) := by show _ = _; unfold hasRel; rw [q1]; rfl
    have HU := Lib.hid (mayRel_ups q1)
    rw [q1] at HM
    clear q1
    have HF := Lib.hid (fun W (hb : Below w.heap.size w W) => find_any B (.slice A1 R.length c1) R x W (HR.out.next hb).o (fun g hg => ⟨ownR_rwN (HR.out.next hb) g hg, ⟨(HX.out.more HBB.out).up hb (Nat.le_refl _), fun hne b o e => by
      obtain ⟨b', o', e', hlt', _⟩ := HX.out.s hne
      rw [e] at e'
      injection e' with e'
      injection e' with e' _
      obtain ⟨n, c, e2⟩ := hg
      injection e2 with e2
      obtain ⟨_, _, e3, _, _, _, _, hgg⟩ := HR.out.form
      injection e3 with e3
      obtain ⟨g', eg', hgB, _⟩ := hgg _ (e3.symm.trans e2)
      injection eg' with eg'
      omega⟩⟩) (by omega) HU.out)
    obtain ⟨A2, c2, l2⟩ := x
    unfold cellR at HF ⊢
    simp only at HF HE ⊢
    obtain ⟨q, hq⟩ : ∃ q, hasB (txR R) l2 = q := ⟨_, rfl⟩
    rw [hq] at HF HE
    clear hq HX HC0
    go_enter Try.func39, Try.ntmps39
    go_wp2_with fail
    refine HM.out.mono ?_
    rintro e w1 ⟨rfl, hb1⟩
    have x1 := (hb1.cell (p := ⟨w.heap.size, 1, none⟩) HLT.out).trans ya1
    have HB1 := Lib.hid (HB0.out.trans (hb1.mono HB0.out.size))
    clear hb1 ya0 ya1 hw0 HM
    go_wp2_with fail
    refine (HF.out w1 HB1.out).mono ?_
    rintro e w2 ⟨⟨k, rfl⟩, hb2⟩
    have HB2 := Lib.hid (HB1.out.trans (hb2.mono HB1.out.size))
    clear hb2 x1
    go_wp2
    go_ret
    exact ⟨ret_bool (by rw [HE.out]), HB2.out⟩
  · rw [Bool.not_eq_true] at q1
    have HE : Hid (hasRel cols0 R x.l = false) := by show _ = _; unfold hasRel; rw [q1]; rfl
    rw [q1] at HM
    obtain ⟨A2, c2, l2⟩ := x
    unfold cellR
    simp only at HE ⊢
    clear q1 HX HC0
    go_enter Try.func39, Try.ntmps39
    go_wp2_with fail
    refine HM.out.mono ?_
    rintro e w1 ⟨rfl, hb1⟩
    have HB1 := Lib.hid (HB0.out.trans (hb1.mono HB0.out.size))
    clear hb1 ya0 ya1 hw0 HM
    go_wp2
    go_ret
    exact ⟨ret_bool (by rw [HE.out]), HB1.out⟩
end Go.Proofs.Ytofmfainhflmmaa

/-
  CONTRACTS: the document's May, Has.
-/
namespace Go.Proofs.Ytofmfainhflmmaa
open Go.RowKit

theorem mayRel_of {cols : List ByteArray} {R : List Rw} (h1 : colsB cols = true) (h2 : R.length ≤ 100000) (h3 : ∀ (i : Nat) (r : Rw), R[i]? = some r → r.l.length = cols.length) (h4 : ∀ (i : Nat) (x y : List Vl), (txR R)[i]? = some x → (txR R)[i + 1]? = some y → ordR x y < 0) : mayRel cols R = true := by
  unfold mayRel
  rw [h1, decide_eq_true h2, longB_yes fun i r hi hr => h3 i r hr, upsB_yes h4]; rfl
theorem mayRel_no1 {cols : List ByteArray} {R : List Rw} (h : colsB cols = false) : mayRel cols R = false := by unfold mayRel; rw [h]; rfl
theorem mayRel_no2 {cols : List ByteArray} {R : List Rw} (h : ¬ R.length ≤ 100000) : mayRel cols R = false := by unfold mayRel; rw [decide_eq_false h, Bool.and_false]; rfl
theorem mayRel_no3 {cols : List ByteArray} {R : List Rw} (h : longB cols.length R = false) : mayRel cols R = false := by unfold mayRel; rw [h, Bool.and_false]; rfl
theorem mayRel_no4 {cols : List ByteArray} {R : List Rw} (h : upsB (txR R) = false) : mayRel cols R = false := by unfold mayRel; rw [h, Bool.and_false]
set_option maxRecDepth 100000 in
set_option maxHeartbeats 4000000 in
theorem refMay_any (A : Option Addr) (c : Nat) (cols : List ByteArray) (A' : Option Addr) (c' : Nat) (R : List Rw) (w : World) (hc : SlC w w.heap.size A cols) (hR : SlR w w.heap.size A' R) (hl : cols.length ≤ 1000000000) (hl' : R.length ≤ 1000000000) :
    Calls Try.prog 58 #[.agg #[.slice A cols.length c, .slice A' R.length c']] w fun e w' => e = .returned (.bool (mayRel cols R)) ∧ Below w.heap.size w w' := by
  have HC := Lib.hid hc
  have HR := Lib.hid hR
  clear hc hR
  obtain ⟨w0, hw0⟩ : ∃ w0, w.alloc (.cells #[.slice A cols.length c, .slice A' R.length c'] 43) = w0 := ⟨_, rfl⟩
  have hb0 : Below w.heap.size w w0 := by rw [← hw0]; exact (Below.refl _ _).alloc (Nat.le_refl _) _
  have ya0 : w0.cell? ⟨w.heap.size, 0, none⟩ = some (.slice A cols.length c) := by rw [← hw0, World.cell?_alloc_new]; rfl
  have ya1 : w0.cell? ⟨w.heap.size, 1, none⟩ = some (.slice A' R.length c') := by rw [← hw0, World.cell?_alloc_new]; rfl
  have hlt : w.heap.size < w0.heap.size := by rw [← hw0]; simp
  have HX := Lib.hid (show w0.cell? ⟨w.heap.size, 0, none⟩ = some (.slice A cols.length c) ∧ w0.cell? ⟨w.heap.size, 1, none⟩ = some (.slice A' R.length c') ∧ w.heap.size < w0.heap.size from ⟨ya0, ya1, hlt⟩)
  have HB0 := Lib.hid hb0
  have HON := Lib.hid (once_any A c cols w0 w0.heap.size (HC.out.up hb0 (Nat.le_refl _)) (by omega))
  clear hlt hb0
  by_cases q1 : colsB cols = true
  · have HQ1 := Lib.hid q1
    rw [q1] at HON
    clear q1
    by_cases q2 : R.length ≤ 100000
    · have q2i : (R.length : Int) ≤ 100000 := by omega
      go_enter Try.func58, Try.ntmps58
      go_wp2_with fail
      refine HON.out.mono ?_
      rintro e w1 ⟨rfl, rfl⟩
      clear hw0
      go_wp2
      go_loopg [4] R.length (fun g x4 wr => ∃ j : Nat, x4 = .int .i64 j ∧ j + g = R.length ∧ Hid (∀ i (r : Rw), i < j → R[i]? = some r → r.l.length = cols.length) ∧ Hid (∀ (i : Nat) (x y : List Vl), i + 1 < j → (txR R)[i]? = some x → (txR R)[i + 1]? = some y → ordR x y < 0) ∧ Hid (Below w0.heap.size w0 wr))
      case atStart => exact ⟨0, rfl, by omega, fun i r h => absurd h (Nat.not_lt_zero _), fun i x y h => absurd h (Nat.not_lt_zero _), Below.refl _ _⟩
      case round =>
        clear ya0 ya1
        obtain ⟨j, rfl, hj, HJ, HU, HB⟩ := hrel
        have ya0 := (HB.out.cell (p := ⟨w.heap.size, 0, none⟩) HX.out.2.2).trans HX.out.1
        have ya1 := (HB.out.cell (p := ⟨w.heap.size, 1, none⟩) HX.out.2.2).trans HX.out.2.1
        have HLT : Hid (w.heap.size < wr.heap.size) := Nat.lt_of_lt_of_le HX.out.2.2 HB.out.size
        have HBW : Hid (Below w.heap.size w wr) := HB0.out.trans (HB.out.mono HB0.out.size)
        cases gk with
        | zero =>
          have hji : ¬ (j : Int) < (R.length : Int) := by omega
          have HE : Hid (mayRel cols R = true) := mayRel_of HQ1.out q2 (fun i r hr => HJ.out i r (by have := (List.getElem?_eq_some_iff.1 hr).1; omega) hr) (fun i x y h1 h2 => HU.out i x y (by have := (List.getElem?_eq_some_iff.1 h2).1; rw [txR_len] at this; omega) h1 h2)
          go_wp2
          go_ret
          exact ⟨ret_bool (by rw [HE.out]), HBW.out⟩
        | succ g =>
          have hji : (j : Int) < (R.length : Int) := by omega
          have hjn : j < R.length := by omega
          obtain ⟨b, o, r, rfl, hb, hr, hp, hok⟩ := (HR.out.up HBW.out (Nat.le_refl _)).at_ hjn
          have HRR := Lib.hid hr
          by_cases q3 : r.l.length = cols.length
          · have q3i : ((r.l.length : Int) != (cols.length : Int)) = false := by rw [q3]; simp
            have HE : Hid (∀ i (q : Rw), i < j + 1 → R[i]? = some q → q.l.length = cols.length) := fun i q hi hq => by
              by_cases e : i = j
              · subst e
                rw [HRR.out] at hq
                rw [← Option.some.inj hq]; exact q3
              · exact HJ.out i q (by omega) hq
            clear q3
            by_cases q4 : j = 0
            · have q4i : ((j : Int) == 0) = true := by rw [q4]; rfl
              have HQ4 := Lib.hid q4
              clear hr hok q4
              go_wp2
              go_quiet (fail)
              go_wp2
              obtain ⟨wq, hwq⟩ : ∃ wq, wr.drewN nq = wq := ⟨_, rfl⟩
              have HBQ : Hid (Below w0.heap.size w0 wq) := by show Below _ _ _; rw [← hwq]; exact HB.out.trans (below_drewN _ _)
              rw [hwq]
              go_roundg g
              case measure => omega
              case rel => exact ⟨j + 1, by go_num, by omega, HE.out, fun i x y h => absurd h (by have := HQ4.out; omega), HBQ.out⟩
            · have q4i : ((j : Int) == 0) = false := by rw [beq_eq_false_iff_ne]; omega
              have hw1 : IntKind.i64.wrap ((j : Int) - 1) = ((j - 1 : Nat) : Int) := by
                rw [show ((j - 1 : Nat) : Int) = (j : Int) - 1 from by omega]; exact IntWalk.i64_in _ (by omega)
              have hj0 : j - 1 < R.length := by omega
              obtain ⟨e1', o1', r3, hA1', _, hr3, p3, hok3⟩ := (HR.out.up HBW.out (Nat.le_refl _)).at_ hj0
              injection hA1' with hA1'
              injection hA1' with hx1 hx2
              subst hx1 hx2
              have HCA := Lib.hid (fun W (hb : Below wr.heap.size wr W) => refCmpR_any r3 r W (hok3.up hb (Nat.le_refl _)) (hok.up hb (Nat.le_refl _)))
              have HR3 := Lib.hid (txR_at hr3)
              have HR4 := Lib.hid (txR_at hr)
              have HP := Lib.hid (show (wr.cell? ⟨b, o + (j - 1), none⟩ = _ ∧ wr.cell? ⟨b, o + j, none⟩ = _ ∧ b < wr.heap.size) ∧ wr.cell? ⟨w.heap.size, 1, none⟩ = _ from ⟨⟨p3, hp, hb⟩, ya1⟩)
              obtain ⟨A3, c3, l3⟩ := r3
              obtain ⟨A4, c4, l4⟩ := r
              unfold cellR at HCA
              obtain ⟨q, hq⟩ : ∃ q, ordR l3 l4 = q := ⟨_, rfl⟩
              have HQ := Lib.hid hq
              rw [hq] at HCA
              simp only at q3i
              clear hr hok hr3 hok3 hq
              go_wp2
              go_quiet (fail)
              obtain ⟨wq, hwq⟩ : ∃ wq, wr.drewN nq = wq := ⟨_, rfl⟩
              have HBQ : Hid (Below wr.heap.size wr wq) := by show Below _ _ _; rw [← hwq]; exact below_drewN _ _
              rw [hwq]
              clear hwq p3 hp ya0 ya1
              go_wp2_with fail
              obtain ⟨wd, hwd⟩ : ∃ wd, wq.drew = wd := ⟨_, rfl⟩
              have HSN : Hid (Snc wr wd) := by show Snc _ _; rw [← hwd]; exact HBQ.out.trans (Below.refl _ _).drew
              refine wp_region_held_drew (S := Snc wr) (by kernel_rfl) (by rw [hwd]; exact HSN.out) (fun hHeld => ?_)
              rw [hwd] at hHeld ⊢
              clear hwd
              refine takeV 0 (some 36) ((.pointer (some ⟨w.heap.size, 1, none⟩))) rfl rfl (by kernel_rfl) (by kernel_rfl) (by kernel_rfl) (fun _ _ _ h => h) (by rfl) (by (intro _w _hSw; (try dsimp only at _hSw); go_simp)) (by assumption) ?_
              simp only [Act.put, List.setIfInBounds_toArray, List.set_cons_zero, List.set_cons_succ]
              refine takeV 1 (some 37) ((.slice (some ⟨b, o, none⟩) R.length c')) rfl rfl (by kernel_rfl) (by kernel_rfl) (by kernel_rfl) (fun _ _ _ h => h) (by rfl) (by (intro _w hSw; have k0 := (Below.cell (p := ⟨w.heap.size, 1, none⟩) hSw HLT.out).trans HP.out.2; clear hSw; go_simp)) (by assumption) ?_
              simp only [Act.put, List.setIfInBounds_toArray, List.set_cons_zero, List.set_cons_succ]
              refine takeV 2 (some 38) ((.int .i64 j)) rfl rfl (by kernel_rfl) (by kernel_rfl) (by kernel_rfl) (fun _ _ _ h => h) (by rfl) (by (intro _w _hSw; (try dsimp only at _hSw); go_simp)) (by assumption) ?_
              simp only [Act.put, List.setIfInBounds_toArray, List.set_cons_zero, List.set_cons_succ]
              refine takeV 3 (some 39) ((.int .i64 ((j - 1 : Nat) : Int))) rfl rfl (by kernel_rfl) (by kernel_rfl) (by kernel_rfl) (fun _ _ _ h => h) (by rfl) (by (intro _w _hSw; (try dsimp only at _hSw); go_simp)) (by assumption) ?_
              simp only [Act.put, List.setIfInBounds_toArray, List.set_cons_zero, List.set_cons_succ]
              refine takeV 4 (some 40) ((.pointer (some ⟨b, o + (j - 1), none⟩))) rfl rfl (by kernel_rfl) (by kernel_rfl) (by kernel_rfl) (fun _ _ _ h => h) (by rfl) (by (intro _w _hSw; (try dsimp only at _hSw); go_simp)) (by assumption) ?_
              simp only [Act.put, List.setIfInBounds_toArray, List.set_cons_zero, List.set_cons_succ]
              refine takeV 5 (some 41) ((.slice A3 l3.length c3)) rfl rfl (by kernel_rfl) (by kernel_rfl) (by kernel_rfl) (fun _ _ _ h => h) (by rfl) (by (intro _w hSw; have k0 := (Below.cell (p := ⟨b, o + (j - 1), none⟩) hSw HP.out.1.2.2).trans HP.out.1.1; clear hSw; go_simp)) (by assumption) ?_
              simp only [Act.put, List.setIfInBounds_toArray, List.set_cons_zero, List.set_cons_succ]
              refine takeV 6 (some 42) ((.pointer (some ⟨w.heap.size, 1, none⟩))) rfl rfl (by kernel_rfl) (by kernel_rfl) (by kernel_rfl) (fun _ _ _ h => h) (by rfl) (by (intro _w _hSw; (try dsimp only at _hSw); go_simp)) (by assumption) ?_
              simp only [Act.put, List.setIfInBounds_toArray, List.set_cons_zero, List.set_cons_succ]
              refine takeV 7 (some 43) ((.slice (some ⟨b, o, none⟩) R.length c')) rfl rfl (by kernel_rfl) (by kernel_rfl) (by kernel_rfl) (fun _ _ _ h => h) (by rfl) (by (intro _w hSw; have k0 := (Below.cell (p := ⟨w.heap.size, 1, none⟩) hSw HLT.out).trans HP.out.2; clear hSw; go_simp)) (by assumption) ?_
              simp only [Act.put, List.setIfInBounds_toArray, List.set_cons_zero, List.set_cons_succ]
              refine takeV 8 (some 44) ((.int .i64 j)) rfl rfl (by kernel_rfl) (by kernel_rfl) (by kernel_rfl) (fun _ _ _ h => h) (by rfl) (by (intro _w _hSw; (try dsimp only at _hSw); go_simp)) (by assumption) ?_
              simp only [Act.put, List.setIfInBounds_toArray, List.set_cons_zero, List.set_cons_succ]
              refine takeV 9 (some 45) ((.pointer (some ⟨b, o + j, none⟩))) rfl rfl (by kernel_rfl) (by kernel_rfl) (by kernel_rfl) (fun _ _ _ h => h) (by rfl) (by (intro _w _hSw; (try dsimp only at _hSw); go_simp)) (by assumption) ?_
              simp only [Act.put, List.setIfInBounds_toArray, List.set_cons_zero, List.set_cons_succ]
              refine takeV 10 (some 46) ((.slice A4 l4.length c4)) rfl rfl (by kernel_rfl) (by kernel_rfl) (by kernel_rfl) (fun _ _ _ h => h) (by rfl) (by (intro _w hSw; have k0 := (Below.cell (p := ⟨b, o + j, none⟩) hSw HP.out.1.2.2).trans HP.out.1.2.1; clear hSw; go_simp)) (by assumption) ?_
              simp only [Act.put, List.setIfInBounds_toArray, List.set_cons_zero, List.set_cons_succ]
              refine callV 11 rfl (by kernel_rfl) (by rfl) (fun K hK => ?_)
              go_simp
              refine (HCA.out _ hHeld).mono ?_
              rintro e w3 ⟨rfl, hb3⟩
              have HB3 : Hid (Below wr.heap.size wr w3) := hHeld.next hb3
              refine hK.out _ _ (hHeld.next hb3) (fun _ => ?_)
              clear hK K hHeld hb3
              try simp only [Act.put, List.setIfInBounds_toArray, List.set_cons_zero, List.set_cons_succ]
              refine takeV 12 (some 5) ((.int .i64 q)) rfl rfl (by kernel_rfl) (by kernel_rfl) (by kernel_rfl) (fun _ _ _ h => h) (by rfl) (by (intro _w _hSw; (try dsimp only at _hSw); go_simp)) (by assumption) ?_
              simp only [Act.put, List.setIfInBounds_toArray, List.set_cons_zero, List.set_cons_succ]
              refine wpAnyH_done (by kernel_rfl) ?_ _
              by_cases hq0 : 0 ≤ q
              · have HE : Hid (mayRel cols R = false) := mayRel_no4 (upsB_no HR3.out (by rw [show j - 1 + 1 = j from by omega]; exact HR4.out) (by rw [HQ.out]; omega))
                go_wp2
                go_ret
                exact ⟨ret_bool (by rw [HE.out]), HBW.out.trans (HB3.out.mono HBW.out.size)⟩
              · have HE2 : Hid (∀ (i : Nat) (x y : List Vl), i + 1 < j + 1 → (txR R)[i]? = some x → (txR R)[i + 1]? = some y → ordR x y < 0) := fun i x y h1 h2 h3 => by
                  by_cases e : i = j - 1
                  · subst e
                    rw [show j - 1 + 1 = j from by omega, HR4.out] at h3
                    rw [HR3.out] at h2
                    rw [← Option.some.inj h2, ← Option.some.inj h3, HQ.out]; omega
                  · exact HU.out i x y (by omega) h2 h3
                go_wp2
                go_roundg g
                case measure => omega
                case rel => exact ⟨j + 1, by go_num, by omega, HE.out, HE2.out, HB.out.trans (HB3.out.mono HB.out.size)⟩
          · have q3i : ((r.l.length : Int) != (cols.length : Int)) = true := by rw [bne_iff_ne]; omega
            have HE : Hid (mayRel cols R = false) := mayRel_no3 (longB_no hr q3)
            clear hr hok q3
            go_wp2
            go_quiet (fail)
            go_wp2
            obtain ⟨wq, hwq⟩ : ∃ wq, wr.drewN nq = wq := ⟨_, rfl⟩
            have HBQ : Hid (Below wr.heap.size wr wq) := by show Below _ _ _; rw [← hwq]; exact below_drewN _ _
            rw [hwq]
            go_ret
            exact ⟨ret_bool (by rw [HE.out]), HBW.out.trans (HBQ.out.mono HBW.out.size)⟩
    · have q2i : ¬ (R.length : Int) ≤ 100000 := by omega
      have HE : Hid (mayRel cols R = false) := mayRel_no2 q2
      go_enter Try.func58, Try.ntmps58
      go_wp2_with fail
      refine HON.out.mono ?_
      rintro e w1 ⟨rfl, rfl⟩
      go_wp2
      go_ret
      exact ⟨ret_bool (by rw [HE.out]), HB0.out⟩
  · rw [Bool.not_eq_true] at q1
    have HE : Hid (mayRel cols R = false) := mayRel_no1 q1
    rw [q1] at HON
    clear q1
    go_enter Try.func58, Try.ntmps58
    go_wp2_with fail
    refine HON.out.mono ?_
    rintro e w1 ⟨rfl, rfl⟩
    go_wp2
    go_ret
    exact ⟨ret_bool (by rw [HE.out]), HB0.out⟩
end Go.Proofs.Ytofmfainhflmmaa
