/-
  THE LAW SpanParts: its walk.
-/
import Derived.Test.YtdlkblnnnmgijaaSCov
import Derived.Test.YtdlkblnnnmgijaaSSame
namespace Go.Proofs.Ytdlkblnnnmgijaa
open Go.RowKit Go.Shelf

theorem inn_low {l : List Sp} {x : Int} (hk : ∀ s ∈ l, SpOk s) (hx : x < minT) : ¬ Inn l x := fun ⟨s, hs, h1, _⟩ => by
  have := (hk s hs).1.1
  omega
theorem set_same {a b : List Sp} (ha : setB a = true) (hb : setB b = true) (hka : ∀ s ∈ a, SpOk s) (hkb : ∀ s ∈ b, SpOk s) (h : ∀ x, minT ≤ x → innB a x = innB b x) : a = b := by
  refine set_ext (of_decide_eq_true ha) (of_decide_eq_true hb) fun x => ?_
  by_cases hx : minT ≤ x
  · have h9 := h x hx
    unfold innB at h9
    rwa [decide_eq_decide] at h9
  · exact ⟨fun k => absurd k (inn_low hka (by omega)), fun k => absurd k (inn_low hkb (by omega))⟩
theorem set_none {a : List Sp} (ha : setB a = true) (hka : ∀ s ∈ a, SpOk s) (h : ∀ x, minT ≤ x → innB a x = false) : a = [] :=
  set_same ha (by decide) hka (fun _ h => by cases h) fun x hx => by rw [h x hx]; rfl
/-- a set that lies in a world -/
def Got (W : World) (A : Option Addr) (c : Nat) (l : List Sp) : Prop := SlS W W.heap.size A l ∧ l.length ≤ c ∧ c ≤ maxLen
theorem Got.next {W W' : World} {A : Option Addr} {c : Nat} {l : List Sp} (h : Got W A c l) (hb : Below W.heap.size W W') : Got W' A c l := ⟨(h.1.next hb (Nat.le_refl _)).more hb.size, h.2⟩
theorem chN_yes {a b : List Sp} (ha : setB a = true) (hb : setB b = true) : chN a b = 0 := by unfold chN; rw [ha, hb]; rfl
theorem covers_yes (A A' : Option Addr) (c c' : Nat) (a b : List Sp) (w : World) (hg : Got w A c a) (hg' : Got w A' c' b) (hl : 2 * a.length + 2 * b.length ≤ 1000) (hka : ∀ s ∈ a, SpOk s) (hkb : ∀ s ∈ b, SpOk s) (hsa : setB a = true) (hsb : setB b = true) (hcv : Cov a b) :
    Calls Try.prog 44 #[.slice A a.length c, .slice A' b.length c'] w fun e w' => e = .returned (.bool true) ∧ Below w.heap.size w w' :=
  (callsIn_wide (n := 9)).1 (covers_in 9 (Nat.le_of_ble_eq_true rfl) A A' c c' a b w hg.1 hg'.1 hg.2.1 hg.2.2 hg'.2.1 hg'.2.2 hl hka hkb hsa hsb hcv)

set_option maxRecDepth 100000 in
set_option maxHeartbeats 4000000 in
theorem partsL_any (A A' : Option Addr) (c c' : Nat) (a b : List Sp) (w : World) (hs : SlS w w.heap.size A a) (hs' : SlS w w.heap.size A' b) (hlc : a.length ≤ c) (hc : c ≤ maxLen) (hlc' : b.length ≤ c') (hc' : c' ≤ maxLen)
    (hka : ∀ s ∈ a, SpOk s) (hkb : ∀ s ∈ b, SpOk s) :
    Calls Try.prog 10 #[.slice A a.length c, .slice A' b.length c'] w fun e w' => e = .returned (.bool true) ∧ Below w.heap.size w w' := by
  have HG := Lib.hid (show Got w A c a ∧ Got w A' c' b from ⟨⟨hs, hlc, hc⟩, hs', hlc', hc'⟩)
  have HK := Lib.hid (And.intro hka hkb)
  clear hs hs' hlc hc hlc' hc' hka hkb
  go_enter Try.func10, Try.ntmps10
  go_wp2_with fail
  refine (aliveS_any _).mono ?_
  rintro e w1 ⟨rfl, hb1⟩
  have HB1 := Lib.hid hb1
  have HA1 := Lib.hid (HG.out.1.next hb1)
  have HC1 := Lib.hid (HG.out.2.next hb1)
  clear hb1 HG
  by_cases h1 : (60 : Int) < (a.length : Int)
  · go_wp2
    go_ret
    exact ⟨rfl, HB1.out⟩
  by_cases h2 : (60 : Int) < (b.length : Int)
  · go_wp2
    go_ret
    exact ⟨rfl, HB1.out⟩
  have hla : a.length ≤ 60 := by omega
  have hlb : b.length ≤ 60 := by omega
  have hll : 2 * a.length + 2 * b.length ≤ 1000 := by omega
  go_wp2_with fail
  refine (spanAnd_any A A' c c' a b _ HA1.out.1 HC1.out.1 HA1.out.2.1 HA1.out.2.2 HC1.out.2.1 HC1.out.2.2 hll HK.out.1 HK.out.2).mono ?_
  rintro e w2 he
  obtain ⟨⟨NA, nc, nl, rfl, k1, k2, k3, hn2, hn3⟩, hb⟩ := chEnd_at he
  have HB2 := Lib.hid (HB1.out.trans (hb.mono HB1.out.size))
  have HA2 := Lib.hid (HA1.out.next hb)
  have HC2 := Lib.hid (HC1.out.next hb)
  have HN2 := Lib.hid (show Got w2 NA nc nl from ⟨k1, k2, k3⟩)
  have HX := Lib.hid hn2
  have hnl : nl.length ≤ 240 := by omega
  clear he hb k1 k2 k3 hn2 hn3 HA1 HC1
  go_wp2_with fail
  refine (spanMinus_any A A' c c' a b _ HA2.out.1 HC2.out.1 HA2.out.2.1 HA2.out.2.2 HC2.out.2.1 HC2.out.2.2 hll HK.out.1 HK.out.2).mono ?_
  rintro e w3 he
  obtain ⟨⟨MA, mc, ml, rfl, k1, k2, k3, hn2, hn3⟩, hb⟩ := chEnd_at he
  have HB3 := Lib.hid (HB2.out.trans (hb.mono HB2.out.size))
  have HA3 := Lib.hid (HA2.out.next hb)
  have HC3 := Lib.hid (HC2.out.next hb)
  have HN3 := Lib.hid (HN2.out.next hb)
  have HM3 := Lib.hid (show Got w3 MA mc ml from ⟨k1, k2, k3⟩)
  have HY := Lib.hid hn2
  have hml : ml.length ≤ 240 := by omega
  clear he hb k1 k2 k3 hn2 hn3 HA2 HC2 HN2
  go_wp2_with fail
  refine (spanOr_any A A' c c' a b _ HA3.out.1 HC3.out.1 HA3.out.2.1 HA3.out.2.2 HC3.out.2.1 HC3.out.2.2 hll HK.out.1 HK.out.2).mono ?_
  rintro e w4 he
  obtain ⟨⟨OA, oc, ol, rfl, k1, k2, k3, hn2, hn3⟩, hb⟩ := chEnd_at he
  have HB4 := Lib.hid (HB3.out.trans (hb.mono HB3.out.size))
  have HA4 := Lib.hid (HA3.out.next hb)
  have HC4 := Lib.hid (HC3.out.next hb)
  have HN4 := Lib.hid (HN3.out.next hb)
  have HM4 := Lib.hid (HM3.out.next hb)
  have HO4 := Lib.hid (show Got w4 OA oc ol from ⟨k1, k2, k3⟩)
  have HZ := Lib.hid hn2
  have hol : ol.length ≤ 240 := by omega
  clear he hb k1 k2 k3 hn2 hn3 HA3 HC3 HN3 HM3
  cases hset : (setB a && setB b)
  · have HCN : Hid (chN a b = 30) := by show _ = _; unfold chN; rw [hset]; rfl
    clear hset
    rw [HCN.out]
    go_wp2
    go_ret
    exact ⟨rfl, HB4.out⟩
  have HCN : Hid (chN a b = 0) := by show _ = _; unfold chN; rw [hset]; rfl
  have HAB := Lib.hid (Bool.and_eq_true_iff.1 hset)
  have HTN := Lib.hid (told_set (HX.out hset) HAB.out.1 HAB.out.2 HK.out.1 HK.out.2)
  have HTM := Lib.hid (told_set (HY.out hset) HAB.out.1 HAB.out.2 HK.out.1 HK.out.2)
  have HTO := Lib.hid (told_set (HZ.out hset) HAB.out.1 HAB.out.2 HK.out.1 HK.out.2)
  clear hset HX HY HZ
  rw [HCN.out]
  go_wp2_with fail
  refine (spanOr_any NA MA nc mc nl ml _ HN4.out.1 HM4.out.1 HN4.out.2.1 HN4.out.2.2 HM4.out.2.1 HM4.out.2.2 (by omega) HTN.out.2.1 HTM.out.2.1).mono ?_
  rintro e w5 he
  obtain ⟨⟨LA, lc, ll, rfl, k1, k2, k3, hn2, hn3⟩, hb⟩ := chEnd_at he
  have HB5 := Lib.hid (HB4.out.trans (hb.mono HB4.out.size))
  have HA5 := Lib.hid (HA4.out.next hb)
  have HC5 := Lib.hid (HC4.out.next hb)
  have HN5 := Lib.hid (HN4.out.next hb)
  have HM5 := Lib.hid (HM4.out.next hb)
  have HO5 := Lib.hid (HO4.out.next hb)
  have hall := told_set (hn2 (by rw [HTN.out.1, HTM.out.1]; rfl)) HTN.out.1 HTM.out.1 HTN.out.2.1 HTM.out.2.1
  have hla2 : ll = a := set_same hall.1 HAB.out.1 hall.2.1 HK.out.1 fun x hx => by
    rw [hall.2.2 x hx, wantsOr_is, HTN.out.2.2 x hx, HTM.out.2.2 x hx, wantsAnd_is, wantsMinus_is]
    cases innB a x <;> cases innB b x <;> rfl
  subst hla2
  have HL5 := Lib.hid (show Got w5 LA lc ll from ⟨k1, k2, k3⟩)
  have HE1 := Lib.hid (chN_yes HTN.out.1 HTM.out.1)
  clear he hb k1 k2 k3 hn2 hn3 hall HA4 HC4 HN4 HM4 HO4
  rw [HE1.out]
  go_wp2_with fail
  refine (spanAnd_any NA MA nc mc nl ml _ HN5.out.1 HM5.out.1 HN5.out.2.1 HN5.out.2.2 HM5.out.2.1 HM5.out.2.2 (by omega) HTN.out.2.1 HTM.out.2.1).mono ?_
  rintro e w6 he
  obtain ⟨⟨EA, ec, el, rfl, k1, k2, k3, hn2, hn3⟩, hb⟩ := chEnd_at he
  have HB6 := Lib.hid (HB5.out.trans (hb.mono HB5.out.size))
  have HA6 := Lib.hid (HA5.out.next hb)
  have HC6 := Lib.hid (HC5.out.next hb)
  have HN6 := Lib.hid (HN5.out.next hb)
  have HM6 := Lib.hid (HM5.out.next hb)
  have HO6 := Lib.hid (HO5.out.next hb)
  have HL6 := Lib.hid (HL5.out.next hb)
  have hnone := told_set (hn2 (by rw [HTN.out.1, HTM.out.1]; rfl)) HTN.out.1 HTM.out.1 HTN.out.2.1 HTM.out.2.1
  have hel : el = [] := set_none hnone.1 hnone.2.1 fun x hx => by
    rw [hnone.2.2 x hx, wantsAnd_is, HTN.out.2.2 x hx, HTM.out.2.2 x hx, wantsAnd_is, wantsMinus_is]
    cases innB ll x <;> cases innB b x <;> rfl
  subst hel
  clear he hb k1 k2 k3 hn2 hn3 hnone HA5 HC5 HN5 HM5 HO5 HL5
  rw [HE1.out]
  go_wp2_with fail
  refine (spanOr_any A' MA c' mc b ml _ HC6.out.1 HM6.out.1 HC6.out.2.1 HC6.out.2.2 HM6.out.2.1 HM6.out.2.2 (by omega) HK.out.2 HTM.out.2.1).mono ?_
  rintro e w7 he
  obtain ⟨⟨BA, bc, bl, rfl, k1, k2, k3, hn2, hn3⟩, hb⟩ := chEnd_at he
  have HB7 := Lib.hid (HB6.out.trans (hb.mono HB6.out.size))
  have HA7 := Lib.hid (HA6.out.next hb)
  have HN7 := Lib.hid (HN6.out.next hb)
  have HO7 := Lib.hid (HO6.out.next hb)
  have HL7 := Lib.hid (HL6.out.next hb)
  have hbo := told_set (hn2 (by rw [HAB.out.2, HTM.out.1]; rfl)) HAB.out.2 HTM.out.1 HK.out.2 HTM.out.2.1
  have hbl : bl = ol := set_same hbo.1 HTO.out.1 hbo.2.1 HTO.out.2.1 fun x hx => by
    rw [hbo.2.2 x hx, wantsOr_is, HTM.out.2.2 x hx, wantsMinus_is, HTO.out.2.2 x hx, wantsOr_is]
    cases innB ll x <;> cases innB b x <;> rfl
  subst hbl
  have HD7 := Lib.hid (show Got w7 BA bc bl from ⟨k1, k2, k3⟩)
  have HE2 := Lib.hid (chN_yes HAB.out.2 HTM.out.1)
  have HCO : Hid (Cov bl ll) := fun x hx hi => by rw [HTO.out.2.2 x hx, wantsOr_is, hi]; rfl
  have HCN2 : Hid (Cov ll nl) := fun x hx hi => by
    rw [HTN.out.2.2 x hx, wantsAnd_is] at hi
    exact (Bool.and_eq_true_iff.1 hi).1
  clear he hb k1 k2 k3 hn2 hn3 hbo HA6 HC6 HN6 HM6 HO6 HL6
  rw [HE2.out]
  go_wp2_with fail
  refine (sameS_any LA A lc c ll _ _ HL7.out.1 HA7.out.1 (by omega)).mono ?_
  rintro e w8 ⟨rfl, n8, rfl⟩
  have hb8 : Below w7.heap.size w7 (w7.drewN n8) := below_ind (Below.refl _ _) n8
  have HB8 := Lib.hid (HB7.out.trans (hb8.mono HB7.out.size))
  have HA8 := Lib.hid (HA7.out.next hb8)
  have HN8 := Lib.hid (HN7.out.next hb8)
  have HO8 := Lib.hid (HO7.out.next hb8)
  have HD8 := Lib.hid (HD7.out.next hb8)
  clear hb8
  go_wp2_with fail
  refine (sameS_any BA OA bc oc bl _ _ HD8.out.1 HO8.out.1 (by omega)).mono ?_
  rintro e w9 ⟨rfl, n9, rfl⟩
  have hb9 : Below (w7.drewN n8).heap.size (w7.drewN n8) (w7.drewN (n8 + n9)) := World.drewN_drewN w7 n8 n9 ▸ below_ind (Below.refl _ _) n9
  have HB9 := Lib.hid (HB8.out.trans (hb9.mono HB8.out.size))
  have HA9 := Lib.hid (HA8.out.next hb9)
  have HN9 := Lib.hid (HN8.out.next hb9)
  have HO9 := Lib.hid (HO8.out.next hb9)
  clear hb9
  go_wp2_with fail
  refine (covers_yes OA A oc c bl ll _ HO9.out HA9.out (by omega) HTO.out.2.1 HK.out.1 HTO.out.1 HAB.out.1 HCO.out).mono ?_
  rintro e w10 ⟨rfl, hb⟩
  have HB10 := Lib.hid (HB9.out.trans (hb.mono HB9.out.size))
  have HA10 := Lib.hid (HA9.out.next hb)
  have HN10 := Lib.hid (HN9.out.next hb)
  clear hb
  go_wp2_with fail
  refine (covers_yes A NA c nc ll nl _ HA10.out HN10.out (by omega) HK.out.1 HTN.out.2.1 HAB.out.1 HTN.out.1 HCN2.out).mono ?_
  rintro e w11 ⟨rfl, hb⟩
  have HB11 := Lib.hid (HB10.out.trans (hb.mono HB10.out.size))
  clear hb
  go_wp2
  go_ret
  exact ⟨rfl, HB11.out⟩
end Go.Proofs.Ytdlkblnnnmgijaa
