/-
  THE LAW RowsPicks.
-/
import Derived.Test.YtafnhhbdcleihaaZPkP
namespace Go.Proofs.Ytafnhhbdcleihaa
open Go.RowKit

set_option maxRecDepth 100000 in
set_option maxHeartbeats 16000000 in
theorem rowsPicksL_any (A0 : Option Addr) (c0 : Nat) (cols0 : List ByteArray) (A1 : Option Addr) (c1 : Nat) (R : List Rw) (A : Option Addr) (c : Nat) (cols : List ByteArray) (x : Rw) (w : World) (hc0 : SlC w w.heap.size A0 cols0) (hR : SlR w w.heap.size A1 R) (hc : SlC w w.heap.size A cols) (hx : RwOk w w.heap.size x)
    (hn0 : A0 = none → cols0.length = 0 ∧ c0 = 0) (hn : A = none → cols.length = 0 ∧ c = 0) (_hlc0 : cols0.length ≤ c0) (hlc : cols.length ≤ c) :
    Calls Try.prog 4 #[.agg #[.slice A0 cols0.length c0, .slice A1 R.length c1], .slice A cols.length c, cellR x] w fun e w' => e = .returned (.bool true) ∧ Below w.heap.size w w' := by
  obtain ⟨i0, hi, hz0, hz1, hz2⟩ := info_parts infoR
  have hmx : 9000000000000 ≤ maxLen := by decide
  have hmf : ∀ (fn : Fn) (first cap : Array Value) (w : World), (Instr.makeFunc fn first cap).run Try.prog w = .ok (.func fn first cap) w := fun _ _ _ _ => rfl
  obtain ⟨wa, hwa⟩ : ∃ X, w.alloc (.cells #[.slice A0 cols0.length c0, .slice A1 R.length c1] 26) = X := ⟨_, rfl⟩
  have hba : Below w.heap.size w wa := by rw [← hwa]; exact (Below.refl _ _).alloc (Nat.le_refl _) _
  have a0 : wa.cell? ⟨w.heap.size, 0, none⟩ = some (.slice A0 cols0.length c0) := by rw [← hwa, World.cell?_alloc_new]; rfl
  have a1 : wa.cell? ⟨w.heap.size, 1, none⟩ = some (.slice A1 R.length c1) := by rw [← hwa, World.cell?_alloc_new]; rfl
  have hla : w.heap.size < wa.heap.size := by rw [← hwa]; simp
  have HBA := Lib.hid hba
  have HAA := Lib.hid (show wa.cell? ⟨w.heap.size, 0, none⟩ = some (.slice A0 cols0.length c0) ∧ wa.cell? ⟨w.heap.size, 1, none⟩ = some (.slice A1 R.length c1) ∧ w.heap.size < wa.heap.size from ⟨a0, a1, hla⟩)
  have HC0 := Lib.hid (Sl1.up hc0 hba (Nat.le_refl _))
  have HR := Lib.hid (hR.up hba (Nat.le_refl _))
  have HC := Lib.hid (Sl1.up hc hba (Nat.le_refl _))
  have HX := Lib.hid (hx.up hba (Nat.le_refl _))
  have HN0 := Lib.hid hn0
  have HN := Lib.hid hn
  have HG1 := Lib.hid (great_any A0 cols0.length c0 A1 c1 R wa wa.heap.size HR.out)
  have HG2 := Lib.hid (great_any A cols.length c none 0 [] wa wa.heap.size ⟨sl1_nil, fun r hr => by cases hr⟩)
  obtain ⟨X1, X2, lx⟩ := x
  unfold cellR
  simp only at HX ⊢
  clear hc0 hR hc hx hn0 hn hba hla
  go_enter Try.func4, Try.ntmps4
  go_wp2_with fail
  refine HG1.out.mono ?_
  rintro e w' ⟨⟨q, rfl, hq⟩, rfl⟩
  cases q with
  | true =>
    clear hwa
    go_wp2
    go_ret
    exact ⟨rfl, HBA.out⟩
  | false =>
  have hsm := hq rfl
  clear hq
  go_wp2_with fail
  refine HG2.out.mono ?_
  rintro e w' ⟨⟨q, rfl, hq⟩, rfl⟩
  cases q with
  | true =>
    clear hwa
    go_wp2
    go_ret
    exact ⟨rfl, HBA.out⟩
  | false =>
  have hsm2 := hq rfl
  clear hq
  have HSM := Lib.hid hsm
  have hl1 := hsm.1
  have hl2 := hsm.2.1
  have hl3 := hsm2.1
  clear hsm hsm2 hwa
  by_cases hx60 : 60 < lx.length
  · have hxi : 60 < (lx.length : Int) := by omega
    go_wp2
    go_ret
    exact ⟨rfl, HBA.out⟩
  have hxi : ¬ 60 < (lx.length : Int) := by omega
  clear hx60
  go_wp2_with fail
  refine (own_any A0 c0 cols0 A1 c1 R wa HC0.out HR.out HN0.out (by omega) (by omega) (fun r hr => by have := HSM.out.2.2 r hr; omega)).mono ?_
  rintro e w1 ⟨vc1, vr1, R1, rfl, ho1, hr1, ht1, hb1⟩
  obtain ⟨B0, d0, rfl, hs1, hlc1, hcm1, hn1, _⟩ := ho1.form
  obtain ⟨B1, d1, rfl, hs2, hlc2, hcm2, hn2, _⟩ := hr1.form
  have hln1 : R1.length = R.length := by rw [← txR_len, ht1, txR_len]
  have HT1 := Lib.hid ht1
  have HLN := Lib.hid hln1
  obtain ⟨w2, hw2⟩ : ∃ X, w1.alloc (.cells #[.slice B0 cols0.length d0, .slice B1 R1.length d1] 26) = X := ⟨_, rfl⟩
  have hb2 : Below w1.heap.size w1 w2 := by rw [← hw2]; exact (Below.refl _ _).alloc (Nat.le_refl _) _
  have hl2' : w1.heap.size < w2.heap.size := by rw [← hw2]; simp
  have y0 : w2.cell? ⟨w1.heap.size, 0, none⟩ = some (.slice B0 cols0.length d0) := by rw [← hw2, World.cell?_alloc_new]; rfl
  have y1 : w2.cell? ⟨w1.heap.size, 1, none⟩ = some (.slice B1 R1.length d1) := by rw [← hw2, World.cell?_alloc_new]; rfl
  have hba2 : Below wa.heap.size wa w2 := hb1.trans (hb2.mono hb1.size)
  have x0 := (hba2.cell (p := ⟨w.heap.size, 0, none⟩) HAA.out.2.2).trans a0
  have x1 := (hba2.cell (p := ⟨w.heap.size, 1, none⟩) HAA.out.2.2).trans a1
  have HFX := Lib.hid (show (w2.cell? ⟨w.heap.size, 0, none⟩ = some (.slice A0 cols0.length c0) ∧ w2.cell? ⟨w.heap.size, 1, none⟩ = some (.slice A1 R.length c1) ∧ w.heap.size < w2.heap.size) ∧ w2.cell? ⟨w1.heap.size, 0, none⟩ = some (.slice B0 cols0.length d0) ∧ w2.cell? ⟨w1.heap.size, 1, none⟩ = some (.slice B1 R1.length d1) ∧ w1.heap.size < w2.heap.size from ⟨⟨x0, x1, Nat.lt_of_lt_of_le HAA.out.2.2 hba2.size⟩, y0, y1, hl2'⟩)
  have HW2 : Hid (Below w.heap.size w w2) := HBA.out.trans (hba2.mono HBA.out.size)
  have HC0 := Lib.hid (Sl1.up HC0.out hba2 (Nat.le_refl _))
  have HR := Lib.hid (HR.out.up hba2 (Nat.le_refl _))
  have HC := Lib.hid (Sl1.up HC.out hba2 (Nat.le_refl _))
  have HXA := HX
  have HBA2 := Lib.hid hba2
  have HX := Lib.hid (HX.out.up hba2 (Nat.le_refl _))
  have HO0 := Lib.hid (Sl1.up hs1 hb2 (Nat.le_refl _))
  have HO1 := Lib.hid (hs2.up hb2 (Nat.le_refl _))
  have HOW := Lib.hid (hr1.next hb2)
  have HAX := Lib.hid hba2.size
  have HXW := Lib.hid (show wa.heap.size ≤ w1.heap.size from hb1.size)
  have HN1 := Lib.hid hn1
  have HLL : Hid (∀ r ∈ R, r.l.length ≤ 1000000000) := fun r hr => by have := HSM.out.2.2 r hr; omega
  have HLL1 : Hid (∀ r ∈ R1, r.l.length ≤ 1000000000) := fun r hr => by
    have h := (small_tx HT1.out HSM.out).2.2 r hr
    omega
  have hl1R : R1.length ≤ 150 := by omega
  clear hs1 hs2 ho1 hr1 ht1 hb1 hb2 hl2' hba2 hn1 hn2 hcm1 hcm2 hln1 a0 a1 HG1 HG2
  have HPJ := project_any B0 d0 cols0 B1 d1 R1 A c cols w2 HO0.out HO1.out HC.out HN.out hlc hlc1 (by omega) (by omega) (by omega)
  rw [projT_tx HT1.out, projC_tx HT1.out] at HPJ
  have HCA := Lib.hid HPJ
  clear HPJ
  go_wp2_with fail
  refine HCA.out.mono ?_
  rintro e w3 ⟨hb3, vc, vr, k2, R2, rfl, hoc, har, hap, hfl, hk2, ht2⟩
  obtain ⟨Aa, ca, rfl, _⟩ := hoc.form
  obtain ⟨Ab, cb, rfl, _⟩ := har.f
  have HOC := Lib.hid hoc
  have HAR := Lib.hid har
  have HAP := Lib.hid hap
  have HK2 := Lib.hid hk2
  have HT2 := Lib.hid ht2
  have HB3 := Lib.hid hb3
  obtain ⟨w4, hw4⟩ : ∃ X, w3.alloc (.cells #[.slice Aa k2.length ca, .slice Ab R2.length cb] 26) = X := ⟨_, rfl⟩
  have hb4 : Below w3.heap.size w3 w4 := by rw [← hw4]; exact (Below.refl _ _).alloc (Nat.le_refl _) _
  have HS8 : Hid (SlotOk w4 w3.heap.size) := by show SlotOk _ _; rw [← hw4]; exact SlotOk.new _ _ _ _ _ _ _ _
  have z0 : w4.cell? ⟨w3.heap.size, 0, none⟩ = some (.slice Aa k2.length ca) := by rw [← hw4, World.cell?_alloc_new]; rfl
  have z1 : w4.cell? ⟨w3.heap.size, 1, none⟩ = some (.slice Ab R2.length cb) := by rw [← hw4, World.cell?_alloc_new]; rfl
  have HF4 : Hid (Below w2.heap.size w2 w4) := hb3.trans (hb4.mono hb3.size)
  have HB34 := Lib.hid hb4
  have HZZ := Lib.hid (show _ ∧ _ ∧ w3.heap.size < w4.heap.size from ⟨z0, z1, by rw [← hw4]; simp⟩)
  obtain ⟨code, hcode⟩ : ∃ k, projC cols0 R cols = k := ⟨_, rfl⟩
  obtain ⟨TT, hTT⟩ : ∃ k, projT cols0 R cols = k := ⟨_, rfl⟩
  have HCD := Lib.hid hcode
  have HTT := Lib.hid hTT
  rw [hcode] at HK2 HT2 ⊢
  rw [hTT] at HT2
  clear hoc har hap hfl hk2 ht2 hb3 hb4 HCA hw2 x0 x1 y0 y1 z0 z1 hcode hTT
  have x0 := ((HF4.out).cell (p := ⟨w.heap.size, 0, none⟩) HFX.out.1.2.2).trans HFX.out.1.1
  have x1 := ((HF4.out).cell (p := ⟨w.heap.size, 1, none⟩) HFX.out.1.2.2).trans HFX.out.1.2.1
  have y0 := ((HF4.out).cell (p := ⟨w1.heap.size, 0, none⟩) HFX.out.2.2.2).trans HFX.out.2.1
  have y1 := ((HF4.out).cell (p := ⟨w1.heap.size, 1, none⟩) HFX.out.2.2.2).trans HFX.out.2.2.1
  go_wp2_with fail
  refine (ref_any _ _ _ _ _ _ _ _ rfl rfl _).mono ?_
  rintro e w5 ⟨rfl, hb5⟩
  have HB45 := Lib.hid hb5
  have HF5 : Hid (Below w2.heap.size w2 w5) := HF4.out.trans (hb5.mono HF4.out.size)
  have HPJ := refProject_any A0 c0 cols0 A1 c1 R A c cols w5 (Sl1.up HC0.out HF5.out (Nat.le_refl _)) (HR.out.up HF5.out (Nat.le_refl _)) (Sl1.up HC.out HF5.out (Nat.le_refl _)) (by omega) (by omega) (by omega) HLL.out
  rw [HCD.out, HTT.out] at HPJ
  have HCA := Lib.hid HPJ
  clear HPJ hb5 hw4 x0 x1 y0 y1
  go_wp2_with fail
  refine HCA.out.mono ?_
  rintro e w6 ⟨hb6, vc, vr, rfl, hcase⟩
  obtain ⟨A3, A4, k3, k4, l3, R3, rfl, rfl, hs3, hr3, hl3', ht3⟩ := refEnd_ans (Sl1.up HC.out (HF5.out.trans (hb6.mono HF5.out.size)) (Nat.le_refl _)) hcase
  have HL3 : Hid (k2 = l3) := HK2.out.trans hl3'.symm
  have HT3 : Hid (txR R2 = txR R3) := HT2.out.trans ht3.symm
  have HS3 := Lib.hid hs3
  have HR3 := Lib.hid hr3
  obtain ⟨w7, hw7⟩ : ∃ X, w6.alloc (.cells #[.slice A3 l3.length k3, .slice A4 R3.length k4] 34) = X := ⟨_, rfl⟩
  have hb7 : Below w6.heap.size w6 w7 := by rw [← hw7]; exact (Below.refl _ _).alloc (Nat.le_refl _) _
  have HS10 : Hid (SlotOk w7 w6.heap.size) := by show SlotOk _ _; rw [← hw7]; exact SlotOk.new _ _ _ _ _ _ _ _
  have u0 : w7.cell? ⟨w6.heap.size, 0, none⟩ = some (.slice A3 l3.length k3) := by rw [← hw7, World.cell?_alloc_new]; rfl
  have u1 : w7.cell? ⟨w6.heap.size, 1, none⟩ = some (.slice A4 R3.length k4) := by rw [← hw7, World.cell?_alloc_new]; rfl
  have hb47 : Below w4.heap.size w4 w7 := HB45.out.trans ((hb6.trans (hb7.mono hb6.size)).mono HB45.out.size)
  have HB37 : Hid (Below w3.heap.size w3 w7) := HB34.out.trans (hb47.mono HB34.out.size)
  have HF7 : Hid (Below w2.heap.size w2 w7) := HF4.out.trans (hb47.mono HF4.out.size)
  have z0 := (hb47.cell (p := ⟨w3.heap.size, 0, none⟩) HZZ.out.2.2).trans HZZ.out.1
  have z1 := (hb47.cell (p := ⟨w3.heap.size, 1, none⟩) HZZ.out.2.2).trans HZZ.out.2.1
  have HS87 := Lib.hid (HS8.out.next hb47 HZZ.out.2.2)
  have HB46 : Hid (w4.heap.size ≤ w6.heap.size) := by
    have h2 := HB45.out.size
    have h3 := hb6.size
    show _ ≤ _; omega
  have HB36 : Hid (w3.heap.size ≤ w6.heap.size) := by
    have h1 := HB34.out.size
    have h2 := HB45.out.size
    have h3 := hb6.size
    show _ ≤ _; omega
  have hkb : k2.length ≤ 60 ∧ R2.length ≤ 100000 ∧ ∀ r ∈ R2, r.l.length ≤ 1000000000 := by
    refine ⟨?_, ?_, fun r hr => ?_⟩
    · rw [HK2.out]; split
      · omega
      · exact Nat.zero_le _
    · rw [← txR_len, HT2.out]; split
      · rw [← HTT.out]
        unfold projT
        have := putsG_len (o := ordR) ((txR R).map (pickV (plN cols cols0)))
        rw [List.length_map, txR_len] at this
        omega
      · exact Nat.zero_le _
    · have hm : r.l ∈ txR R2 := List.mem_map.2 ⟨r, hr, rfl⟩
      rw [HT2.out] at hm
      split at hm
      · rw [← HTT.out] at hm
        unfold projT at hm
        rw [putsG_mem ordR_is] at hm
        obtain ⟨q, _, e⟩ := List.mem_map.1 hm
        rw [← e, pickV_len]
        unfold plN
        rw [List.length_map]; omega
      · cases hm
  have hlen2 : R2.length = R3.length := by rw [← txR_len, HT3.out, txR_len]
  have HTO := toldK_any (.slice Aa k2.length ca) (.slice Ab R2.length cb) k2 R2 A3 A4 k3 k4 l3 R3 code code w7 w3 w2.heap.size HB3.out.size HB37.out HOC.out HAR.out (Sl1.up HS3.out hb7 (Nat.le_refl _)) (HR3.out.up hb7 (Nat.le_refl _)) (by omega) (by rw [← HL3.out]; omega) (by omega) (by omega) hkb.2.2 HAP.out
  have hTT : ((code == code) && sameB k2 l3 (txR R2) (txR R3)) = true := by rw [HL3.out, HT3.out, sameB_yes, beq_self_eq_true]; rfl
  rw [hTT] at HTO
  have HTOL := Lib.hid HTO
  clear HTO hTT hkb hlen2 hb6 hcase hs3 hr3 hl3' ht3 hb7 hb47 HCA
  go_wp2_with fail
  refine HTOL.out.mono ?_
  rintro e w8 ⟨rfl, hb8, hk8⟩
  have HF8 : Hid (Below w2.heap.size w2 w8) := HF7.out.trans hb8
  have HS88 : Hid (SlotOk w8 w3.heap.size) := HS87.out.keep (hk8 _ (Nat.le_refl _) HS87.out.lt) hb8.size
  have HS108 : Hid (SlotOk w8 w6.heap.size) := HS10.out.keep (hk8 _ HB36.out HS10.out.lt) hb8.size
  have HS9 : Hid (w2.heap.size ≤ w3.heap.size) := HB3.out.size
  clear hb8 hk8 hw7 u0 u1 z0 z1 HTOL
  have x0 := ((HF8.out).cell (p := ⟨w.heap.size, 0, none⟩) HFX.out.1.2.2).trans HFX.out.1.1
  have x1 := ((HF8.out).cell (p := ⟨w.heap.size, 1, none⟩) HFX.out.1.2.2).trans HFX.out.1.2.1
  have y0 := ((HF8.out).cell (p := ⟨w1.heap.size, 0, none⟩) HFX.out.2.2.2).trans HFX.out.2.1
  have y1 := ((HF8.out).cell (p := ⟨w1.heap.size, 1, none⟩) HFX.out.2.2.2).trans HFX.out.2.2.1
  have HRN := rename_any B0 d0 cols0 B1 d1 R1 A c cols w8 (Sl1.up HO0.out HF8.out (Nat.le_refl _)) (HO1.out.up HF8.out (Nat.le_refl _)) (Sl1.up HC.out HF8.out (Nat.le_refl _)) HN.out hlc hlc1 (by omega) (by omega) (by omega)
  rw [HT1.out, renC_tx HT1.out] at HRN
  have HCA := Lib.hid HRN
  obtain ⟨code2, hcode2⟩ : ∃ k, renC cols0 R cols = k := ⟨_, rfl⟩
  have HCD2 := Lib.hid hcode2
  rw [hcode2] at HCA
  have HNE : Hid (w6.heap.size ≠ w3.heap.size) := by
    have h1 := HZZ.out.2.2
    have h2 := HB46.out
    show _ ≠ _; omega
  clear HRN hcode2 HOC HAR HAP HK2 HT2 HZZ HL3 HT3 HS3 HR3
  go_wp2_with fail
  refine HCA.out.mono ?_
  rintro e w9 ⟨hb9, vc, vr, m2, R4, rfl, hoc, har, hap, hfl, hk2, ht2⟩
  obtain ⟨Ac, cc, rfl, _⟩ := hoc.form
  obtain ⟨Ad, cd, rfl, _⟩ := har.f
  have HOC := Lib.hid hoc
  have HAR := Lib.hid har
  have HAP := Lib.hid hap
  have HFL := Lib.hid hfl
  have HK2 := Lib.hid hk2
  have HT2 := Lib.hid ht2
  have HB9 := Lib.hid hb9
  have HS89 := Lib.hid (HS88.out.next hb9 HS88.out.lt)
  have HS109 := Lib.hid (HS108.out.next hb9 HS108.out.lt)
  obtain ⟨_, _, _, _, _, _, s0, s1, g0, g1, _⟩ := HS89.out
  clear hoc har hap hfl hk2 ht2 hb9 HCA x0 x1 y0 y1
  go_upto_region 9 with fail
  obtain ⟨w10, hw10⟩ : ∃ X, (w9.setCell ⟨w3.heap.size, 0, none⟩ (.slice Ac m2.length cc)).setCell ⟨w3.heap.size, 1, none⟩ (.slice Ad R4.length cd) = X := ⟨_, rfl⟩
  have HZ8 : Hid (w10.cell? ⟨w3.heap.size, 0, none⟩ = some (.slice Ac m2.length cc) ∧ w10.cell? ⟨w3.heap.size, 1, none⟩ = some (.slice Ad R4.length cd)) := by rw [← hw10]; exact slot_two HS89.out _ _
  have HS810 : Hid (SlotOk w10 w3.heap.size) := by show SlotOk _ _; rw [← hw10]; exact HS89.out.put _ _ _ _ _ _
  have HS1010 : Hid (SlotOk w10 w6.heap.size) := by show SlotOk _ _; rw [← hw10]; exact (HS109.out.other HNE.out).other HNE.out
  have HF10 : Hid (Below w2.heap.size w2 w10) := by
    show Below _ _ _
    rw [← hw10]
    exact ((HF8.out.trans (HB9.out.mono HF8.out.size)).setCell (p := ⟨w3.heap.size, 0, none⟩) HS9.out _).setCell (p := ⟨w3.heap.size, 1, none⟩) HS9.out _
  have HOC10 : Hid (OwnC w10 w8.heap.size (.slice Ac m2.length cc) m2) := by
    show Own1 _ _ _ _ _ _
    rw [← hw10]
    exact owns_set (owns_set HOC.out HS88.out.lt _ _) HS88.out.lt _ _
  have HAR10 : Hid (AnsR w10 w8.heap.size (.slice Ad R4.length cd) R4) := by
    show AnsR _ _ _ _
    rw [← hw10]
    exact (HAR.out.set HS88.out.lt HFL.out _ _).set HS88.out.lt HFL.out _ _
  rw [hw10]
  have HW10 : Hid (w8.heap.size ≤ w10.heap.size) := by show _ ≤ _; rw [← hw10]; simpa using HB9.out.size
  clear hw10 s0 s1 g0 g1 HS89 HS109 HOC HAR
  have x0 := ((HF10.out).cell (p := ⟨w.heap.size, 0, none⟩) HFX.out.1.2.2).trans HFX.out.1.1
  have x1 := ((HF10.out).cell (p := ⟨w.heap.size, 1, none⟩) HFX.out.1.2.2).trans HFX.out.1.2.1
  have y0 := ((HF10.out).cell (p := ⟨w1.heap.size, 0, none⟩) HFX.out.2.2.2).trans HFX.out.2.1
  have y1 := ((HF10.out).cell (p := ⟨w1.heap.size, 1, none⟩) HFX.out.2.2.2).trans HFX.out.2.2.1
  go_wp2_with fail
  refine (ref_any _ _ _ _ _ _ _ _ rfl rfl _).mono ?_
  rintro e w11 ⟨rfl, hb11⟩
  have HB11 := Lib.hid hb11
  have HF11 : Hid (Below w2.heap.size w2 w11) := HF10.out.trans (hb11.mono HF10.out.size)
  have HRN := refRename_any A0 c0 cols0 A1 c1 R A c cols w11 (Sl1.up HC0.out HF11.out (Nat.le_refl _)) (HR.out.up HF11.out (Nat.le_refl _)) (Sl1.up HC.out HF11.out (Nat.le_refl _)) (by omega) (by omega) (by omega) HLL.out
  rw [HCD2.out] at HRN
  have HCA := Lib.hid HRN
  clear HRN hb11 x0 x1 y0 y1
  go_wp2_with fail
  refine HCA.out.mono ?_
  rintro e w12 ⟨hb12, vc, vr, rfl, hcase⟩
  have hf12 : Below w2.heap.size w2 w12 := HF11.out.trans (hb12.mono HF11.out.size)
  obtain ⟨⟨a3, n3, k3, e3⟩, a4, n4, k4, e4⟩ := RefEnd.slices hcase
  subst e3 e4
  have HRF := Lib.hid hcase
  have hb1012 : Below w10.heap.size w10 w12 := HB11.out.trans (hb12.mono HB11.out.size)
  have HB1012 := Lib.hid hb1012
  have HF12 := Lib.hid hf12
  have HS812 := Lib.hid (HS810.out.next hb1012 HS810.out.lt)
  have HS1012 := Lib.hid (HS1010.out.next hb1012 HS1010.out.lt)
  obtain ⟨_, _, _, _, _, _, s0, s1, g0, g1, _⟩ := HS1012.out
  clear hb12 hf12 hcase hb1012 HCA
  go_upto_region 10 with fail
  obtain ⟨w13, hw13⟩ : ∃ X, (w12.setCell ⟨w6.heap.size, 0, none⟩ (.slice a3 n3 k3)).setCell ⟨w6.heap.size, 1, none⟩ (.slice a4 n4 k4) = X := ⟨_, rfl⟩
  have HL610 : Hid (w6.heap.size < w8.heap.size) := HS108.out.lt
  have HF13 : Hid (Below w2.heap.size w2 w13) := by
    show Below _ _ _
    rw [← hw13]
    have h1 : w2.heap.size ≤ w6.heap.size := Nat.le_trans HS9.out HB36.out
    exact (HF12.out.setCell (p := ⟨w6.heap.size, 0, none⟩) h1 _).setCell (p := ⟨w6.heap.size, 1, none⟩) h1 _
  have HRF13 : Hid ((code2 = 0 ∧ Value.slice a3 n3 k3 = .slice A cols.length c ∧ ∃ R', RdR w13 w11.heap.size (.slice a4 n4 k4) R' ∧ txR R' = txR R) ∨ (code2 ≠ 0 ∧ Value.slice a3 n3 k3 = .slice none 0 0 ∧ Value.slice a4 n4 k4 = .slice none 0 0)) := by
    show _ ∨ _
    rw [← hw13]
    exact ref_put HRF.out HS1012.out (Nat.lt_of_lt_of_le HL610.out (Nat.le_trans HW10.out HB11.out.size)) _ _
  have HZ10 : Hid (w13.cell? ⟨w6.heap.size, 0, none⟩ = some (.slice a3 n3 k3) ∧ w13.cell? ⟨w6.heap.size, 1, none⟩ = some (.slice a4 n4 k4)) := by rw [← hw13]; exact slot_two HS1012.out _ _
  have HZ813 : Hid (w13.cell? ⟨w3.heap.size, 0, none⟩ = some (.slice Ac m2.length cc) ∧ w13.cell? ⟨w3.heap.size, 1, none⟩ = some (.slice Ad R4.length cd)) := by
    rw [← hw13]
    have e1 : ∀ (o o' : Nat) (W : World) (u : Value), (W.setCell ⟨w6.heap.size, o', none⟩ u).cell? ⟨w3.heap.size, o, none⟩ = W.cell? ⟨w3.heap.size, o, none⟩ := fun o o' W u => World.cell?_setCell_other _ _ _ _ (by intro e; injection e with e; exact HNE.out e)
    rw [e1, e1, e1, e1]
    exact ⟨(HB1012.out.cell (p := ⟨w3.heap.size, 0, none⟩) HS810.out.lt).trans HZ8.out.1, (HB1012.out.cell (p := ⟨w3.heap.size, 1, none⟩) HS810.out.lt).trans HZ8.out.2⟩
  have HS813 : Hid (SlotOk w13 w3.heap.size) := by show SlotOk _ _; rw [← hw13]; exact (HS812.out.other HNE.out.symm).other HNE.out.symm
  have HS1013 : Hid (SlotOk w13 w6.heap.size) := by show SlotOk _ _; rw [← hw13]; exact HS1012.out.put _ _ _ _ _ _
  have HOC13 : Hid (OwnC w13 w8.heap.size (.slice Ac m2.length cc) m2) := by
    show Own1 _ _ _ _ _ _
    rw [← hw13]
    exact owns_set (owns_set (HOC10.out.next HB1012.out) HL610.out _ _) HL610.out _ _
  have HAR13 : Hid (AnsR w13 w8.heap.size (.slice Ad R4.length cd) R4) := by
    show AnsR _ _ _ _
    rw [← hw13]
    exact ((HAR10.out.next HB1012.out).set HL610.out HFL.out _ _).set HL610.out HFL.out _ _
  have HW13 : Hid (w8.heap.size ≤ w13.heap.size) := by
    show _ ≤ _
    rw [← hw13]
    simpa using Nat.le_trans HW10.out HB1012.out.size
  rw [hw13]
  clear hw13 s0 s1 g0 g1 HRF HOC10 HAR10
  obtain ⟨A3, A4, k3', k4', l3, R3, e3, e4, hs3, hr3, hl3', ht3⟩ := refEnd_ans (Sl1.up HC.out HF13.out (Nat.le_refl _)) HRF13.out
  injection e3 with e31 e32 e33
  injection e4 with e41 e42 e43
  subst e31 e32 e33 e41 e42 e43
  have HL3 : Hid (m2 = l3) := HK2.out.trans hl3'.symm
  have HT3 : Hid (txR R4 = txR R3) := HT2.out.trans ht3.symm
  have hkb : m2.length ≤ 60 ∧ R4.length ≤ 150 ∧ ∀ r ∈ R4, r.l.length ≤ 1000000000 := by
    refine ⟨?_, ?_, fun r hr => ?_⟩
    · rw [HK2.out]; split
      · omega
      · exact Nat.zero_le _
    · rw [← txR_len, HT2.out]; split
      · rw [txR_len]; omega
      · exact Nat.zero_le _
    · have hm : r.l ∈ txR R4 := List.mem_map.2 ⟨r, hr, rfl⟩
      rw [HT2.out] at hm
      split at hm
      · obtain ⟨q, hq, e⟩ := List.mem_map.1 hm
        have := HLL.out q hq
        rw [← e]; omega
      · cases hm
  have hlen2 : R4.length = R3.length := by rw [← txR_len, HT3.out, txR_len]
  have HTO := told_any (.slice Ac m2.length cc) (.slice Ad R4.length cd) m2 R4 a3 a4 k3 k4 l3 R3 code2 code2 w13 w8.heap.size HW13.out HOC13.out HAR13.out hs3 hr3 (by omega) (by rw [← HL3.out]; omega) (by omega) (by omega) hkb.2.2 HAP.out
  have hTT : ((code2 == code2) && sameB m2 l3 (txR R4) (txR R3)) = true := by rw [HL3.out, HT3.out, sameB_yes, beq_self_eq_true]; rfl
  rw [hTT] at HTO
  have HTOL := Lib.hid HTO
  obtain ⟨z0, z1⟩ := HZ813.out
  obtain ⟨v0, v1⟩ := HZ10.out
  clear HTO hTT hkb hlen2 hs3 hr3 hl3' ht3
  go_wp2_with fail
  refine HTOL.out.mono ?_
  rintro e w14 ⟨rfl, hb14⟩
  have HF14 : Hid (Below w2.heap.size w2 w14) := HF13.out.trans (hb14.mono HF8.out.size)
  have HS814 := Lib.hid (HS813.out.next hb14 HS88.out.lt)
  have HS1014 := Lib.hid (HS1013.out.next hb14 HL610.out)
  clear hb14 z0 z1 v0 v1 HTOL HL3 HT3 HRF13 HOC13 HAR13
  obtain ⟨w15, hw15⟩ : ∃ X, w14.alloc (.cells #[.int .i64 0] 3) = X := ⟨_, rfl⟩
  obtain ⟨w16, hw16⟩ : ∃ X, w15.alloc (.cells #[.bool true] 4) = X := ⟨_, rfl⟩
  have hb15 : Below w14.heap.size w14 w15 := by rw [← hw15]; exact (Below.refl _ _).alloc (Nat.le_refl _) _
  have hb16 : Below w15.heap.size w15 w16 := by rw [← hw16]; exact (Below.refl _ _).alloc (Nat.le_refl _) _
  have hl15 : w14.heap.size < w15.heap.size := by rw [← hw15]; simp
  have hl16 : w15.heap.size < w16.heap.size := by rw [← hw16]; simp
  have hst16 : SelSt w14.heap.size w15.heap.size 0 w16 := by
    refine ⟨(hb16.cell (p := ⟨w14.heap.size, 0, none⟩) hl15).trans ?_, (hb16.frozen (p := ⟨w14.heap.size, 0, none⟩) hl15).trans ?_, ?_, ?_⟩
    · rw [← hw15, World.cell?_alloc_new]; rfl
    · rw [← hw15]; simp
    · rw [← hw16, World.cell?_alloc_new]; rfl
    · rw [← hw16]; simp
  have hb1416 : Below w14.heap.size w14 w16 := hb15.trans (hb16.mono hb15.size)
  have HF16 : Hid (Below w2.heap.size w2 w16) := HF14.out.trans (hb1416.mono HF14.out.size)
  have HS816 := Lib.hid (HS814.out.next hb1416 HS814.out.lt)
  have HS1016 := Lib.hid (HS1014.out.next hb1416 HS1014.out.lt)
  have HLV : Hid (w2.heap.size ≤ w14.heap.size ∧ w14.heap.size < w15.heap.size ∧ w15.heap.size < w16.heap.size ∧ w3.heap.size < w14.heap.size ∧ w6.heap.size < w14.heap.size ∧ w.heap.size < w14.heap.size) := ⟨HF14.out.size, hl15, hl16, HS814.out.lt, HS1014.out.lt, Nat.lt_of_lt_of_le HFX.out.1.2.2 HF14.out.size⟩
  have HSEL := select_any w.heap.size w14.heap.size w15.heap.size A1 c1 R B0 d0 cols0 B1 d1 R1 w16 hst16 HLV.out.2.2.2.2.2 hl15 hl16 ((HF16.out.cell (p := ⟨w.heap.size, 1, none⟩) HFX.out.1.2.2).trans HFX.out.1.2.1) ((HR.out.next HF16.out (Nat.le_refl _)).more HLV.out.1) ((HO0.out.next HF16.out (Nat.le_refl _)).more HLV.out.1) HN1.out ((HO1.out.next HF16.out (Nat.le_refl _)).more HLV.out.1) HT1.out hlc1 (by omega) (by omega) HLL1.out
  rw [HT1.out, selC_tx HT1.out, mayRel_tx HT1.out, HLN.out] at HSEL
  unfold cloV at HSEL
  obtain ⟨m, hm⟩ : ∃ m, (if mayRel cols0 R = true then R.length else 0) = m := ⟨_, rfl⟩
  have HMM := Lib.hid hm
  rw [hm] at HSEL
  have HCA := Lib.hid HSEL
  rw [HLN.out] at HFX
  have HW15 := Lib.hid hw15
  have HW16 := Lib.hid hw16
  clear HSEL hst16 hb15 hb16 hl15 hl16 hb1416 hm hw15 hw16
  go_upto_region 14 with fail
  have hz15 : w15.heap.size = w14.heap.size + 1 := by rw [← HW15.out]; simp
  rw [HW15.out, HW16.out, ← hz15]
  clear hz15
  have x0 := ((HF16.out).cell (p := ⟨w.heap.size, 0, none⟩) HFX.out.1.2.2).trans HFX.out.1.1
  have x1 := ((HF16.out).cell (p := ⟨w.heap.size, 1, none⟩) HFX.out.1.2.2).trans HFX.out.1.2.1
  have y0 := ((HF16.out).cell (p := ⟨w1.heap.size, 0, none⟩) HFX.out.2.2.2).trans HFX.out.2.1
  have y1 := ((HF16.out).cell (p := ⟨w1.heap.size, 1, none⟩) HFX.out.2.2.2).trans HFX.out.2.2.1
  go_wp2_with fail
  refine HCA.out.mono ?_
  rintro e w17 ⟨hk17, hst17, vc, vr, p2, R5, rfl, hoc, har, hap, hfl, hk2, ht2⟩
  obtain ⟨Ae, ce, rfl, _⟩ := hoc.form
  obtain ⟨Af, cf, rfl, _⟩ := har.f
  have HOC := Lib.hid hoc
  have HAR := Lib.hid har
  have HAP := Lib.hid hap
  have HFL := Lib.hid hfl
  have HK2 := Lib.hid hk2
  have HT2 := Lib.hid ht2
  have HK17 := Lib.hid hk17
  have HST17 := Lib.hid hst17
  have n8 : w3.heap.size < w16.heap.size := HS816.out.lt
  have n10 : w6.heap.size < w16.heap.size := HS1016.out.lt
  have HS817 : Hid (SlotOk w17 w3.heap.size) := HS816.out.keep (hk17.b _ n8 n8 (by have := HLV.out; omega) (by have := HLV.out; omega)) hk17.size
  have HS1017 : Hid (SlotOk w17 w6.heap.size) := HS1016.out.keep (hk17.b _ n10 n10 (by have := HLV.out; omega) (by have := HLV.out; omega)) hk17.size
  have HF17 : Hid (Below w2.heap.size w2 w17) := HF16.out.trans (hk17.below (by have := HLV.out; omega) (by have := HLV.out; omega) (by have := HLV.out; omega) (by have := HLV.out; omega))
  obtain ⟨_, _, _, _, _, _, s0, s1, g0, g1, _⟩ := HS817.out
  clear hoc har hap hfl hk2 ht2 hk17 hst17 HCA x0 x1 y0 y1 n8 n10
  go_upto_region 15 with fail
  obtain ⟨w18, hw18⟩ : ∃ X, (w17.setCell ⟨w3.heap.size, 0, none⟩ (.slice Ae p2.length ce)).setCell ⟨w3.heap.size, 1, none⟩ (.slice Af R5.length cf) = X := ⟨_, rfl⟩
  have HZ8 : Hid (w18.cell? ⟨w3.heap.size, 0, none⟩ = some (.slice Ae p2.length ce) ∧ w18.cell? ⟨w3.heap.size, 1, none⟩ = some (.slice Af R5.length cf)) := by rw [← hw18]; exact slot_two HS817.out _ _
  have HS1018 : Hid (SlotOk w18 w6.heap.size) := by show SlotOk _ _; rw [← hw18]; exact (HS1017.out.other HNE.out).other HNE.out
  have HST18 : Hid (SelSt w14.heap.size w15.heap.size m w18) := by
    show SelSt _ _ _ _
    rw [← hw18]
    have e1 : w14.heap.size ≠ w3.heap.size := by have := HLV.out; omega
    have e2 : w15.heap.size ≠ w3.heap.size := by have := HLV.out; omega
    exact (HST17.out.set ⟨w3.heap.size, 0, none⟩ _ e1 e2).set ⟨w3.heap.size, 1, none⟩ _ e1 e2
  have HF18 : Hid (Below w2.heap.size w2 w18) := by
    show Below _ _ _
    rw [← hw18]
    exact (HF17.out.setCell (p := ⟨w3.heap.size, 0, none⟩) HS9.out _).setCell (p := ⟨w3.heap.size, 1, none⟩) HS9.out _
  have HL816 : Hid (w3.heap.size < w16.heap.size ∧ w6.heap.size < w16.heap.size) := ⟨HS816.out.lt, HS1016.out.lt⟩
  have HOC18 : Hid (OwnC w18 w16.heap.size (.slice Ae p2.length ce) p2) := by
    show Own1 _ _ _ _ _ _
    rw [← hw18]
    exact owns_set (owns_set HOC.out HL816.out.1 _ _) HL816.out.1 _ _
  have HAR18 : Hid (AnsR w18 w16.heap.size (.slice Af R5.length cf) R5) := by
    show AnsR _ _ _ _
    rw [← hw18]
    exact (HAR.out.set HL816.out.1 HFL.out _ _).set HL816.out.1 HFL.out _ _
  have HW18 : Hid (w16.heap.size ≤ w18.heap.size) := by show _ ≤ _; rw [← hw18]; simpa using HK17.out.size
  rw [hw18]
  clear hw18 s0 s1 g0 g1 HOC HAR
  have x0 := ((HF18.out).cell (p := ⟨w.heap.size, 0, none⟩) HFX.out.1.2.2).trans HFX.out.1.1
  have x1 := ((HF18.out).cell (p := ⟨w.heap.size, 1, none⟩) HFX.out.1.2.2).trans HFX.out.1.2.1
  have y0 := ((HF18.out).cell (p := ⟨w1.heap.size, 0, none⟩) HFX.out.2.2.2).trans HFX.out.2.1
  have y1 := ((HF18.out).cell (p := ⟨w1.heap.size, 1, none⟩) HFX.out.2.2.2).trans HFX.out.2.2.1
  go_wp2_with fail
  refine (ref_any _ _ _ _ _ _ _ _ rfl rfl _).mono ?_
  rintro e w19 ⟨rfl, hb19⟩
  have HB19 := Lib.hid hb19
  have HF19 : Hid (Below w2.heap.size w2 w19) := HF18.out.trans (hb19.mono HF18.out.size)
  have HCA := Lib.hid (refMay_any A0 c0 cols0 A1 c1 R w19 (Sl1.up HC0.out HF19.out (Nat.le_refl _)) (HR.out.up HF19.out (Nat.le_refl _)) (by omega) (by omega))
  obtain ⟨mb, hmb⟩ : ∃ q, mayRel cols0 R = q := ⟨_, rfl⟩
  have HMB := Lib.hid hmb
  rw [hmb] at HCA
  clear hb19 hmb x0 x1 y0 y1
  go_wp2_with fail
  refine HCA.out.mono ?_
  rintro e w20 ⟨rfl, hb20⟩
  have HB1820 : Hid (Below w18.heap.size w18 w20) := HB19.out.trans (hb20.mono HB19.out.size)
  have HF20 : Hid (Below w2.heap.size w2 w20) := HF18.out.trans (HB1820.out.mono HF18.out.size)
  have HS1020 := Lib.hid (HS1018.out.next HB1820.out HS1018.out.lt)
  clear hb20 HCA
  have x0 := ((HF20.out).cell (p := ⟨w.heap.size, 0, none⟩) HFX.out.1.2.2).trans HFX.out.1.1
  have x1 := ((HF20.out).cell (p := ⟨w.heap.size, 1, none⟩) HFX.out.1.2.2).trans HFX.out.1.2.1
  have y0 := ((HF20.out).cell (p := ⟨w1.heap.size, 0, none⟩) HFX.out.2.2.2).trans HFX.out.2.1
  have y1 := ((HF20.out).cell (p := ⟨w1.heap.size, 1, none⟩) HFX.out.2.2.2).trans HFX.out.2.2.1
  have HMY := Lib.hid (fun W (hb : Below w2.heap.size w2 W) => may_any B0 d0 cols0 B1 d1 R1 W (Sl1.up HO0.out hb (Nat.le_refl _)) (HO1.out.up hb (Nat.le_refl _)) hlc1 (by omega) (by omega))
  have HHS := Lib.hid (fun W (hb : Below w2.heap.size w2 W) => has_any B0 d0 cols0 wa.heap.size B1 d1 R1 ⟨X1, X2, lx⟩ W (Sl1.up HO0.out hb (Nat.le_refl _)) (HOW.out.next hb) (HXA.out.next (HBA2.out.trans (hb.mono HBA2.out.size)) (Nat.le_refl _)) (Nat.le_trans HBA2.out.size hb.size) hlc1 (by omega) (by omega))
  have HRH := Lib.hid (fun W (hb : Below w2.heap.size w2 W) => refHas_any A0 c0 cols0 A1 c1 R ⟨X1, X2, lx⟩ W (Sl1.up HC0.out hb (Nat.le_refl _)) (HR.out.up hb (Nat.le_refl _)) (HX.out.up hb (Nat.le_refl _)) (by omega) (by omega))
  have HSA := Lib.hid (fun W (hb : Below w2.heap.size w2 W) => sameL_any B0 B1 A0 A1 d0 d1 c0 c1 cols0 cols0 R1 R W (Sl1.up HO0.out hb (Nat.le_refl _)) (Sl1.up HC0.out hb (Nat.le_refl _)) (HO1.out.up hb (Nat.le_refl _)) (HR.out.up hb (Nat.le_refl _)) (by omega) (by omega) (by omega) (by omega))
  unfold cellR at HHS HRH
  rw [HLN.out, mayRel_tx HT1.out, HMB.out] at HMY
  simp only [HLN.out, hasRel_tx HT1.out] at HHS
  simp only at HRH
  rw [HT1.out, sameB_yes, HLN.out] at HSA
  obtain ⟨hb0, hhb0⟩ : ∃ q, hasRel cols0 R lx = q := ⟨_, rfl⟩
  rw [hhb0] at HHS HRH
  clear hhb0
  go_wp2
  clear x0 x1 y0 y1
  go_loopg [15, 83] R.length (fun g x15 x83 wr => ∃ (j : Nat) (acc : List Rw), Own1 30 cellR wr w20.heap.size x15 acc ∧ x83 = .int .i64 j ∧ j + g = R.length ∧ Hid (acc = selW 0 (R.take j)) ∧ Hid (Below w20.heap.size w20 wr))
  case atStart => exact ⟨0, [], own1_nil _ _ _ _, rfl, by omega, rfl, Below.refl _ _⟩
  case round =>
    obtain ⟨j, acc, ho, rfl, hj, HA, HB⟩ := hrel
    have HFr : Hid (Below w2.heap.size w2 wr) := HF20.out.trans (HB.out.mono HF20.out.size)
    have x0 := ((HFr.out).cell (p := ⟨w.heap.size, 0, none⟩) HFX.out.1.2.2).trans HFX.out.1.1
    have x1 := ((HFr.out).cell (p := ⟨w.heap.size, 1, none⟩) HFX.out.1.2.2).trans HFX.out.1.2.1
    have y0 := ((HFr.out).cell (p := ⟨w1.heap.size, 0, none⟩) HFX.out.2.2.2).trans HFX.out.2.1
    have y1 := ((HFr.out).cell (p := ⟨w1.heap.size, 1, none⟩) HFX.out.2.2.2).trans HFX.out.2.2.1
    cases gk with
    | succ g =>
      have hji : (j : Int) < (R.length : Int) := by omega
      have hjn : j < R.length := by omega
      obtain ⟨b, o, r, hA1, hb, hr, hp, hok⟩ := (HR.out.up HFr.out (Nat.le_refl _)).at_ hjn
      subst hA1
      have HTK : Hid (R.take (j + 1) = R.take j ++ [r]) := by
        show _ = _
        rw [List.take_succ_eq_append_getElem hjn]
        rw [List.getElem?_eq_getElem hjn] at hr
        rw [Option.some.inj hr]
      have HRL : Hid ((R.take j).length = j) := List.length_take_of_le (by omega)
      have hacc : acc.length ≤ 150 := by
        have h1 := (selW_sub 0 (R.take j)).length_le
        rw [← HA.out, HRL.out] at h1
        omega
      have HACC := Lib.hid hacc
      obtain ⟨q, hq⟩ : ∃ q, (((j : Int) + 1) % 3 != 0) = q := ⟨_, rfl⟩
      have HQ : Hid (wantB j = q) := hq
      obtain ⟨A5, c5, l5⟩ := r
      have HO := Lib.hid ho
      clear hr hok ho hacc
      cases q with
      | false =>
        have HE : Hid (acc = selW 0 (R.take (j + 1))) := by
          show _ = _
          rw [HTK.out, selW_snoc, HRL.out, Nat.zero_add, HQ.out, HA.out]
          simp
        go_wp2
        go_roundg g
        case measure => omega
        case rel => exact ⟨j + 1, acc, HO.out, by go_num, by omega, HE.out, HB.out⟩
      | true =>
        have HE : Hid (acc ++ [(⟨A5, c5, l5⟩ : Rw)] = selW 0 (R.take (j + 1))) := by
          show _ = _
          rw [HTK.out, selW_snoc, HRL.out, Nat.zero_add, HQ.out, HA.out]
          rfl
        have HOA : Hid (Own1 30 cellR (wr.alloc (.cells #[.slice A5 l5.length c5] 30)) w20.heap.size u15 acc) := HO.out.next ((Below.refl _ _).alloc (Nat.le_refl _) _)
        have HBX : Hid (Below w20.heap.size w20 (wr.alloc (.cells #[.slice A5 l5.length c5] 30))) := HB.out.alloc HB.out.size _
        have HLC := Lib.hid (lit1 cellR 30 wr ⟨A5, c5, l5⟩)
        have HONE : Hid (∀ u ∈ [(⟨A5, c5, l5⟩ : Rw)].map cellR, u.oneCell' = true) := fun u hu => by obtain ⟨x, _, rfl⟩ := List.mem_map.1 hu; rfl
        have HOX : Hid (World.ownsRow (wr.alloc (.cells #[.slice A5 l5.length c5] 30)) w20.heap.size 30 1 u15 acc.length (acc.map cellR)) := HOA.out
        go_wp2_with (at_builtin; refine wpList_append_any rfl _ _ 23 rfl w20.heap.size 30 i0 (.slice none 0 0) 1 24 Try.underlying23 hi hz0 hz1 hz2 rfl (by decide) _ _ _ rfl HOX.out (some ⟨wr.heap.size, 0, none⟩) 1 1 ([(⟨A5, c5, l5⟩ : Rw)].map cellR) rfl rfl (fun h => by cases h) HLC.out HONE.out (by have := HACC.out; omega) (by have := HACC.out; omega) HBX.out.size ?_; intro v1 w9' hown hgrow; have HV1 : Hid (Own1 30 cellR w9' w20.heap.size v1 (acc ++ [⟨A5, c5, l5⟩])) := own1_of hown; have HB9' := Lib.hid (HBX.out.trans (below_owns HOX.out hgrow HBX.out.size)); clear hown hgrow)
        go_roundg g
        case measure => omega
        case rel => exact ⟨j + 1, acc ++ [(⟨A5, c5, l5⟩ : Rw)], HV1.out, by go_num, by omega, HE.out, HB9'.out⟩
    | zero =>
      have hji : ¬ (j : Int) < (R.length : Int) := by omega
      have hae : acc = selW 0 R := by
        have := HA.out
        rw [List.take_of_length_le (by omega)] at this
        exact this
      subst hae
      obtain ⟨A15, c15, rfl, hs15, _, _, _, hg15⟩ := ho.form
      have HB6N : Hid (∀ b o, A15 = some ⟨b, o, none⟩ → b ≠ w6.heap.size) := fun b o e e2 => by
        obtain ⟨g', e3, h1, _⟩ := hg15 _ e
        injection e3 with e3
        have h2 := HS1020.out.lt
        omega
      have HS15 : Hid (SlR wr wr.heap.size A15 (selW 0 R)) := ⟨hs15, fun r hr => (HR.out.up HFr.out (Nat.le_refl _)).r r ((selW_sub 0 R).subset hr)⟩
      have HL15 : Hid ((selW 0 R).length ≤ 150) := by
        have h1 := (selW_sub 0 R).length_le
        show _ ≤ _; omega
      have HB18r : Hid (Below w18.heap.size w18 wr) := HB1820.out.trans (HB.out.mono HB1820.out.size)
      have HS10r := Lib.hid (HS1018.out.next HB18r.out HS1018.out.lt)
      obtain ⟨_, _, _, _, _, _, s0, s1, g0, g1, _⟩ := HS10r.out
      clear ho hs15 hg15
      go_upto_region 24 with fail
      obtain ⟨wS, hwS⟩ : ∃ X, (wr.setCell ⟨w6.heap.size, 0, none⟩ (.slice none 0 0)).setCell ⟨w6.heap.size, 1, none⟩ (.slice none 0 0) = X := ⟨_, rfl⟩
      have HZ10S : Hid (wS.cell? ⟨w6.heap.size, 0, none⟩ = some (.slice none 0 0) ∧ wS.cell? ⟨w6.heap.size, 1, none⟩ = some (.slice none 0 0)) := by rw [← hwS]; exact slot_two HS10r.out _ _
      have HS10S : Hid (SlotOk wS w6.heap.size) := by show SlotOk _ _; rw [← hwS]; exact HS10r.out.put _ _ _ _ _ _
      have HE8 : Hid (∀ (o o' : Nat) (W : World) (u : Value), (W.setCell ⟨w6.heap.size, o', none⟩ u).cell? ⟨w3.heap.size, o, none⟩ = W.cell? ⟨w3.heap.size, o, none⟩) := fun o o' W u => World.cell?_setCell_other _ _ _ _ (by intro e; injection e with e; exact HNE.out e)
      have HL8S : Hid (w3.heap.size < w18.heap.size ∧ w16.heap.size ≤ wr.heap.size) := ⟨Nat.lt_of_lt_of_le HL816.out.1 HW18.out, Nat.le_trans HW18.out HB18r.out.size⟩
      have HZ8S : Hid (wS.cell? ⟨w3.heap.size, 0, none⟩ = some (.slice Ae p2.length ce) ∧ wS.cell? ⟨w3.heap.size, 1, none⟩ = some (.slice Af R5.length cf)) := by
        rw [← hwS, HE8.out, HE8.out, HE8.out, HE8.out]
        exact ⟨(HB18r.out.cell (p := ⟨w3.heap.size, 0, none⟩) HL8S.out.1).trans HZ8.out.1, (HB18r.out.cell (p := ⟨w3.heap.size, 1, none⟩) HL8S.out.1).trans HZ8.out.2⟩
      have HN12 : Hid (w14.heap.size ≠ w6.heap.size ∧ w15.heap.size ≠ w6.heap.size) := by have := HLV.out; exact ⟨by omega, by omega⟩
      have HSTS : Hid (SelSt w14.heap.size w15.heap.size m wS) := by
        show SelSt _ _ _ _
        rw [← hwS]
        have h1 : w14.heap.size < w18.heap.size := by have := HLV.out; have := HW18.out; omega
        have h2 : w15.heap.size < w18.heap.size := by have := HLV.out; have := HW18.out; omega
        exact ((HST18.out.next HB18r.out h1 h2).set ⟨w6.heap.size, 0, none⟩ _ HN12.out.1 HN12.out.2).set ⟨w6.heap.size, 1, none⟩ _ HN12.out.1 HN12.out.2
      have HF6 : Hid (w2.heap.size ≤ w6.heap.size) := Nat.le_trans HS9.out HB36.out
      have HFS : Hid (Below w2.heap.size w2 wS) := by
        show Below _ _ _
        rw [← hwS]
        exact (HFr.out.setCell (p := ⟨w6.heap.size, 0, none⟩) HF6.out _).setCell (p := ⟨w6.heap.size, 1, none⟩) HF6.out _
      have HOCS : Hid (OwnC wS w16.heap.size (.slice Ae p2.length ce) p2) := by
        show Own1 _ _ _ _ _ _
        rw [← hwS]
        exact owns_set (owns_set (HOC18.out.next HB18r.out) HL816.out.2 _ _) HL816.out.2 _ _
      have HARS : Hid (AnsR wS w16.heap.size (.slice Af R5.length cf) R5) := by
        show AnsR _ _ _ _
        rw [← hwS]
        exact ((HAR18.out.next HB18r.out).set HL816.out.2 HFL.out _ _).set HL816.out.2 HFL.out _ _
      have HWS : Hid (w16.heap.size ≤ wS.heap.size) := by show _ ≤ _; rw [← hwS]; simpa using HL8S.out.2
      have HSLS : Hid (SlR wS wS.heap.size A15 (selW 0 R)) := by
        have hk : Kp w6.heap.size wr wS := by rw [← hwS]; exact (kp_set _ _ _).trans (kp_set _ _ _)
        refine ⟨fun hne => ?_, fun r hr => ((HR.out.up HFS.out (Nat.le_refl _)).r r ((selW_sub 0 R).subset hr))⟩
        obtain ⟨b, o, e, hlt, hcc⟩ := HS15.out.s hne
        have hb6 : b ≠ w6.heap.size := HB6N.out b o e
        exact ⟨b, o, e, Nat.lt_of_lt_of_le hlt hk.size, fun i r hr => hk.cell hb6 (hcc i r hr)⟩
      rw [hwS]
      clear hwS s0 s1 g0 g1 x0 x1 y0 y1
      cases mb with
      | true =>
        have hsel := sel_of HMB.out
        have HOF := refOf_any A0 c0 cols0 A15 c15 (selW 0 R) wS (Sl1.up HC0.out HFS.out (Nat.le_refl _)) (by omega) HSLS.out (by have := HL15.out; omega) (fun r hr => HLL.out r ((selW_sub 0 R).subset hr))
        rw [hsel.1, hsel.2] at HOF
        have HCA := Lib.hid HOF
        have hm : m = R.length := by rw [← HMM.out, if_pos HMB.out]
        subst hm
        have hc8 : selC cols0 R = 0 := by unfold selC; rw [if_pos HMB.out]
        rw [hc8] at HK2 HT2
        rw [hc8]
        rw [if_pos rfl] at HK2 HT2
        clear hsel HOF hc8
        have x0 := ((HFS.out).cell (p := ⟨w.heap.size, 0, none⟩) HFX.out.1.2.2).trans HFX.out.1.1
        have x1 := ((HFS.out).cell (p := ⟨w.heap.size, 1, none⟩) HFX.out.1.2.2).trans HFX.out.1.2.1
        have y0 := ((HFS.out).cell (p := ⟨w1.heap.size, 0, none⟩) HFX.out.2.2.2).trans HFX.out.2.1
        have y1 := ((HFS.out).cell (p := ⟨w1.heap.size, 1, none⟩) HFX.out.2.2.2).trans HFX.out.2.2.1
        go_wp2_with fail
        refine HCA.out.mono ?_
        rintro e w22 ⟨hb22, vc, vr, rfl, hcase⟩
        obtain ⟨⟨a3, n3, k3, e3⟩, a4, n4, k4, e4⟩ := RefEnd.slices hcase
        subst e3 e4
        have HRF : Hid (((0 : Int) = 0 ∧ Value.slice a3 n3 k3 = .slice A0 cols0.length c0 ∧ ∃ R', RdR w22 wS.heap.size (.slice a4 n4 k4) R' ∧ txR R' = selF 0 (txR R)) ∨ ((0 : Int) ≠ 0 ∧ Value.slice a3 n3 k3 = .slice none 0 0 ∧ Value.slice a4 n4 k4 = .slice none 0 0)) := by
          rcases hcase with ⟨_, h⟩ | ⟨h, _⟩
          · exact .inl ⟨rfl, h⟩
          · exact absurd rfl h
        have HB22 := Lib.hid hb22
        have HS1022 := Lib.hid (HS10S.out.next hb22 HS10S.out.lt)
        obtain ⟨_, _, _, _, _, _, s0, s1, g0, g1, _⟩ := HS1022.out
        clear hb22 hcase HCA x0 x1 y0 y1
        go_upto_region 26 with fail
        obtain ⟨wT, hwT⟩ : ∃ X, (w22.setCell ⟨w6.heap.size, 0, none⟩ (.slice a3 n3 k3)).setCell ⟨w6.heap.size, 1, none⟩ (.slice a4 n4 k4) = X := ⟨_, rfl⟩
        have HRFT : Hid (((0 : Int) = 0 ∧ Value.slice a3 n3 k3 = .slice A0 cols0.length c0 ∧ ∃ R', RdR wT wS.heap.size (.slice a4 n4 k4) R' ∧ txR R' = selF 0 (txR R)) ∨ ((0 : Int) ≠ 0 ∧ Value.slice a3 n3 k3 = .slice none 0 0 ∧ Value.slice a4 n4 k4 = .slice none 0 0)) := by
          have h9 : ((0 : Int) = 0 ∧ Value.slice a3 n3 k3 = .slice A0 cols0.length c0 ∧ ∃ R', RdR w22 wS.heap.size (.slice a4 n4 k4) R' ∧ txR R' = selF 0 (txR R)) ∨ ((0 : Int) ≠ 0 ∧ Value.slice a3 n3 k3 = .slice none 0 0 ∧ Value.slice a4 n4 k4 = .slice none 0 0) := by
            rcases HRF.out with ⟨_, h⟩ | ⟨h, _⟩
            · exact .inl ⟨rfl, h⟩
            · exact absurd rfl h
          show _ ∨ _
          rw [← hwT]
          exact ref_put h9 HS1022.out HS10S.out.lt _ _
        have HZ10T : Hid (wT.cell? ⟨w6.heap.size, 0, none⟩ = some (.slice a3 n3 k3) ∧ wT.cell? ⟨w6.heap.size, 1, none⟩ = some (.slice a4 n4 k4)) := by rw [← hwT]; exact slot_two HS1022.out _ _
        have HL8T : Hid (w3.heap.size < wS.heap.size ∧ w14.heap.size < wS.heap.size ∧ w15.heap.size < wS.heap.size) := by have := HLV.out; have := HWS.out; exact ⟨by omega, by omega, by omega⟩
        have HZ8T : Hid (wT.cell? ⟨w3.heap.size, 0, none⟩ = some (.slice Ae p2.length ce) ∧ wT.cell? ⟨w3.heap.size, 1, none⟩ = some (.slice Af R5.length cf)) := by
          rw [← hwT, HE8.out, HE8.out, HE8.out, HE8.out]
          exact ⟨(HB22.out.cell (p := ⟨w3.heap.size, 0, none⟩) HL8T.out.1).trans HZ8S.out.1, (HB22.out.cell (p := ⟨w3.heap.size, 1, none⟩) HL8T.out.1).trans HZ8S.out.2⟩
        have HSTT : Hid (SelSt w14.heap.size w15.heap.size R.length wT) := by
          show SelSt _ _ _ _
          rw [← hwT]
          exact ((HSTS.out.next HB22.out HL8T.out.2.1 HL8T.out.2.2).set ⟨w6.heap.size, 0, none⟩ _ HN12.out.1 HN12.out.2).set ⟨w6.heap.size, 1, none⟩ _ HN12.out.1 HN12.out.2
        have HFT : Hid (Below w2.heap.size w2 wT) := by
          show Below _ _ _
          rw [← hwT]
          exact ((HFS.out.trans (HB22.out.mono HFS.out.size)).setCell (p := ⟨w6.heap.size, 0, none⟩) HF6.out _).setCell (p := ⟨w6.heap.size, 1, none⟩) HF6.out _
        have HOCT : Hid (OwnC wT w16.heap.size (.slice Ae p2.length ce) p2) := by
          show Own1 _ _ _ _ _ _
          rw [← hwT]
          exact owns_set (owns_set (HOCS.out.next HB22.out) HL816.out.2 _ _) HL816.out.2 _ _
        have HART : Hid (AnsR wT w16.heap.size (.slice Af R5.length cf) R5) := by
          show AnsR _ _ _ _
          rw [← hwT]
          exact ((HARS.out.next HB22.out).set HL816.out.2 HFL.out _ _).set HL816.out.2 HFL.out _ _
        have HWT : Hid (w16.heap.size ≤ wT.heap.size) := by show _ ≤ _; rw [← hwT]; simpa using Nat.le_trans HWS.out HB22.out.size
        rw [hwT]
        clear hwT s0 s1 g0 g1 HRF
        obtain ⟨q3, q4, k5, k6, l3, R3, e3, e4, hs3, hr3, hl3', ht3⟩ := refEnd_ans (Sl1.up HC0.out HFT.out (Nat.le_refl _)) HRFT.out
        injection e3 with e31 e32 e33
        injection e4 with e41 e42 e43
        subst e31 e32 e33 e41 e42 e43
        rw [if_pos rfl] at hl3' ht3
        have HL3 : Hid (p2 = l3) := HK2.out.trans hl3'.symm
        have HT3 : Hid (txR R5 = txR R3) := HT2.out.trans ht3.symm
        have HS3 := Lib.hid hs3
        have HR3 := Lib.hid hr3
        have HKB : Hid (p2.length ≤ 60 ∧ R5.length ≤ 150 ∧ (∀ r ∈ R5, r.l.length ≤ 1000000000) ∧ R5.length = R3.length) := by
          refine ⟨by rw [HK2.out]; omega, ?_, fun r hr => ?_, by rw [← txR_len, HT3.out, txR_len]⟩
          · rw [← txR_len, HT2.out]
            have := selF_len 0 (txR R)
            rw [txR_len] at this
            omega
          · have hm : r.l ∈ txR R5 := List.mem_map.2 ⟨r, hr, rfl⟩
            rw [HT2.out, ← selW_tx] at hm
            obtain ⟨q, hq, e⟩ := List.mem_map.1 hm
            rw [← e]
            exact HLL.out q ((selW_sub 0 R).subset hq)
        clear hs3 hr3 hl3' ht3
        have HTO := told_any (.slice Ae p2.length ce) (.slice Af R5.length cf) p2 R5 a3 a4 k3 k4 l3 R3 0 0 wT w16.heap.size HWT.out HOCT.out HART.out HS3.out HR3.out (by have := HKB.out.1; omega) (by rw [← HL3.out]; have := HKB.out.1; omega) (by have := HKB.out.2.1; omega) (by have := HKB.out.2.1; have := HKB.out.2.2.2; omega) HKB.out.2.2.1 HAP.out
        have hTT : (((0 : Int) == 0) && sameB p2 l3 (txR R5) (txR R3)) = true := by rw [HL3.out, HT3.out, sameB_yes, beq_self_eq_true]; rfl
        rw [hTT] at HTO
        have HTOL := Lib.hid HTO
        obtain ⟨z0, z1⟩ := HZ8T.out
        obtain ⟨v0, v1⟩ := HZ10T.out
        clear HTO hTT
        go_wp2_with fail
        refine HTOL.out.mono ?_
        rintro e w24 ⟨rfl, hb24⟩
        have hf24 : Below w2.heap.size w2 w24 := HFT.out.trans (hb24.mono HF16.out.size)
        have HF24 := Lib.hid hf24
        have hst24 := HSTT.out.next hb24 (Nat.lt_trans HLV.out.2.1 HLV.out.2.2.1) HLV.out.2.2.1
        have t0 := hst24.c
        have t1 := hst24.o
        clear hb24 z0 z1 v0 v1 HTOL hst24 hf24
        have x0 := ((HF24.out).cell (p := ⟨w.heap.size, 0, none⟩) HFX.out.1.2.2).trans HFX.out.1.1
        have x1 := ((HF24.out).cell (p := ⟨w.heap.size, 1, none⟩) HFX.out.1.2.2).trans HFX.out.1.2.1
        have y0 := ((HF24.out).cell (p := ⟨w1.heap.size, 0, none⟩) HFX.out.2.2.2).trans HFX.out.2.1
        have y1 := ((HF24.out).cell (p := ⟨w1.heap.size, 1, none⟩) HFX.out.2.2.2).trans HFX.out.2.2.1
        have HYS := Lib.hid (show _ ∧ _ ∧ _ ∧ _ from ⟨x0, x1, y0, y1⟩)
        go_wp2_with fail
        clear x0 x1 y0 y1 t0 t1
        obtain ⟨wd, hwd⟩ : ∃ wd, w24.drew = wd := ⟨_, rfl⟩
        have HSN : Hid (Snc w24 wd) := by show Snc _ _; rw [← hwd]; exact (Below.refl _ _).drew
        have HLX : Hid (w.heap.size < w24.heap.size ∧ w1.heap.size < w24.heap.size) := ⟨Nat.lt_of_lt_of_le HFX.out.1.2.2 HF24.out.size, Nat.lt_of_lt_of_le HFX.out.2.2.2 HF24.out.size⟩
        refine wp_region_held_drew (S := Snc w24) (by kernel_rfl) (by rw [hwd]; exact HSN.out) (fun hHeld => ?_)
        rw [hwd] at hHeld ⊢
        clear hwd
        refine takeV 0 (some 136) ((.agg #[.slice B0 cols0.length d0, .slice B1 R.length d1])) rfl rfl (by kernel_rfl) (by kernel_rfl) (by kernel_rfl) (fun _ _ _ h => h) (by rfl) (by (intro _w hSw; have k0 := (Below.cell (p := ⟨w1.heap.size, 0, none⟩) hSw HLX.out.2).trans HYS.out.2.2.1; have k1 := (Below.cell (p := ⟨w1.heap.size, 1, none⟩) hSw HLX.out.2).trans HYS.out.2.2.2; clear hSw; go_simp)) (by assumption) ?_
        simp only [Act.put, List.setIfInBounds_toArray, List.set_cons_zero, List.set_cons_succ]
        refine takeV 2 (some 138) ((.bool true)) rfl rfl (by kernel_rfl) (by kernel_rfl) (by kernel_rfl) (fun _ _ _ h => h) (by rfl) (by (intro _w _hSw; (try dsimp only at _hSw); go_simp)) (by assumption) ?_
        simp only [Act.put, List.setIfInBounds_toArray, List.set_cons_zero, List.set_cons_succ]
        refine callV 1 rfl (by kernel_rfl) (by rfl) (fun K hK => ?_)
        go_simp
        refine (HMY.out _ (HF24.out.trans (Below.mono hHeld HF24.out.size))).mono ?_
        rintro e w25 ⟨rfl, hb25⟩
        refine hK.out _ _ (hHeld.next hb25) (fun hHeld2 => ?_)
        clear hK K hHeld hb25
        try simp only [Act.put, List.setIfInBounds_toArray, List.set_cons_zero, List.set_cons_succ]
        refine takeV 3 (some 139) ((.bool true)) rfl rfl (by kernel_rfl) (by kernel_rfl) (by kernel_rfl) (fun _ _ _ h => h) (by rfl) (by (intro _w _hSw; (try dsimp only at _hSw); go_simp)) (by assumption) ?_
        simp only [Act.put, List.setIfInBounds_toArray, List.set_cons_zero, List.set_cons_succ]
        refine takeV 4 (some 140) ((.bool true)) rfl rfl (by kernel_rfl) (by kernel_rfl) (by kernel_rfl) (fun _ _ _ h => h) (by rfl) (by (intro _w _hSw; (try dsimp only at _hSw); go_simp)) (by assumption) ?_
        simp only [Act.put, List.setIfInBounds_toArray, List.set_cons_zero, List.set_cons_succ]
        refine takeV 5 (some 141) ((.agg #[.slice B0 cols0.length d0, .slice B1 R.length d1])) rfl rfl (by kernel_rfl) (by kernel_rfl) (by kernel_rfl) (fun _ _ _ h => h) (by rfl) (by (intro _w hSw; have k0 := (Below.cell (p := ⟨w1.heap.size, 0, none⟩) hSw HLX.out.2).trans HYS.out.2.2.1; have k1 := (Below.cell (p := ⟨w1.heap.size, 1, none⟩) hSw HLX.out.2).trans HYS.out.2.2.2; clear hSw; go_simp)) (by assumption) ?_
        simp only [Act.put, List.setIfInBounds_toArray, List.set_cons_zero, List.set_cons_succ]
        refine takeV 6 (some 142) ((.slice X1 lx.length X2)) rfl rfl (by kernel_rfl) (by kernel_rfl) (by kernel_rfl) (fun _ _ _ h => h) (by rfl) (by (intro _w _hSw; (try dsimp only at _hSw); go_simp)) (by assumption) ?_
        simp only [Act.put, List.setIfInBounds_toArray, List.set_cons_zero, List.set_cons_succ]
        refine takeV 8 (some 144) ((.agg #[.slice A0 cols0.length c0, .slice A1 R.length c1])) rfl rfl (by kernel_rfl) (by kernel_rfl) (by kernel_rfl) (fun _ _ _ h => h) (by rfl) (by (intro _w hSw; have k0 := (Below.cell (p := ⟨w.heap.size, 0, none⟩) hSw HLX.out.1).trans HYS.out.1; have k1 := (Below.cell (p := ⟨w.heap.size, 1, none⟩) hSw HLX.out.1).trans HYS.out.2.1; clear hSw; go_simp)) (by assumption) ?_
        simp only [Act.put, List.setIfInBounds_toArray, List.set_cons_zero, List.set_cons_succ]
        refine takeV 10 (some 146) ((.slice X1 lx.length X2)) rfl rfl (by kernel_rfl) (by kernel_rfl) (by kernel_rfl) (fun _ _ _ h => h) (by rfl) (by (intro _w _hSw; (try dsimp only at _hSw); go_simp)) (by assumption) ?_
        simp only [Act.put, List.setIfInBounds_toArray, List.set_cons_zero, List.set_cons_succ]
        refine callV 7 rfl (by kernel_rfl) (by rfl) (fun K hK => ?_)
        go_simp
        refine (HHS.out _ (HF24.out.trans (Below.mono hHeld2 HF24.out.size))).mono ?_
        rintro e w26 ⟨rfl, hb26⟩
        refine hK.out _ _ (hHeld2.next hb26) (fun hHeld3 => ?_)
        clear hK K hHeld2 hb26
        try simp only [Act.put, List.setIfInBounds_toArray, List.set_cons_zero, List.set_cons_succ]
        refine callV 9 rfl (by kernel_rfl) (by rfl) (fun K hK => ?_)
        go_simp
        refine (ref_any _ _ _ _ _ _ _ _ rfl rfl _).mono ?_
        rintro e w27 ⟨rfl, hb27⟩
        refine hK.out _ _ (hHeld3.next hb27) (fun hHeld4 => ?_)
        clear hK K hHeld3 hb27
        try simp only [Act.put, List.setIfInBounds_toArray, List.set_cons_zero, List.set_cons_succ]
        refine callV 11 rfl (by kernel_rfl) (by rfl) (fun K hK => ?_)
        go_simp
        refine (HRH.out _ (HF24.out.trans (Below.mono hHeld4 HF24.out.size))).mono ?_
        rintro e w28 ⟨rfl, hb28⟩
        refine hK.out _ _ (hHeld4.next hb28) (fun hHeld5 => ?_)
        clear hK K hHeld4 hb28
        try simp only [Act.put, List.setIfInBounds_toArray, List.set_cons_zero, List.set_cons_succ]
        refine takeV 12 (some 148) ((.bool true)) rfl rfl (by kernel_rfl) (by kernel_rfl) (by kernel_rfl) (fun _ _ _ h => h) (by rfl) (by (intro _w _hSw; (try dsimp only at _hSw); go_simp)) (by assumption) ?_
        simp only [Act.put, List.setIfInBounds_toArray, List.set_cons_zero, List.set_cons_succ]
        refine takeV 13 (some 149) ((.bool true)) rfl rfl (by kernel_rfl) (by kernel_rfl) (by kernel_rfl) (fun _ _ _ h => h) (by rfl) (by (intro _w _hSw; (try dsimp only at _hSw); go_simp)) (by assumption) ?_
        simp only [Act.put, List.setIfInBounds_toArray, List.set_cons_zero, List.set_cons_succ]
        refine takeV 14 (some 150) ((.bool true)) rfl rfl (by kernel_rfl) (by kernel_rfl) (by kernel_rfl) (fun _ _ _ h => h) (by rfl) (by (intro _w _hSw; (try dsimp only at _hSw); go_simp)) (by assumption) ?_
        simp only [Act.put, List.setIfInBounds_toArray, List.set_cons_zero, List.set_cons_succ]
        refine takeV 15 (some 151) ((.agg #[.slice B0 cols0.length d0, .slice B1 R.length d1])) rfl rfl (by kernel_rfl) (by kernel_rfl) (by kernel_rfl) (fun _ _ _ h => h) (by rfl) (by (intro _w hSw; have k0 := (Below.cell (p := ⟨w1.heap.size, 0, none⟩) hSw HLX.out.2).trans HYS.out.2.2.1; have k1 := (Below.cell (p := ⟨w1.heap.size, 1, none⟩) hSw HLX.out.2).trans HYS.out.2.2.2; clear hSw; go_simp)) (by assumption) ?_
        simp only [Act.put, List.setIfInBounds_toArray, List.set_cons_zero, List.set_cons_succ]
        refine takeV 16 (some 152) ((.agg #[.slice A0 cols0.length c0, .slice A1 R.length c1])) rfl rfl (by kernel_rfl) (by kernel_rfl) (by kernel_rfl) (fun _ _ _ h => h) (by rfl) (by (intro _w hSw; have k0 := (Below.cell (p := ⟨w.heap.size, 0, none⟩) hSw HLX.out.1).trans HYS.out.1; have k1 := (Below.cell (p := ⟨w.heap.size, 1, none⟩) hSw HLX.out.1).trans HYS.out.2.1; clear hSw; go_simp)) (by assumption) ?_
        simp only [Act.put, List.setIfInBounds_toArray, List.set_cons_zero, List.set_cons_succ]
        refine callV 17 rfl (by kernel_rfl) (by rfl) (fun K hK => ?_)
        go_simp
        refine (HSA.out _ (HF24.out.trans (Below.mono hHeld5 HF24.out.size))).mono ?_
        rintro e w29 ⟨rfl, hb29⟩
        have HEND : Hid (Below w.heap.size w w29) := HW2.out.trans ((HF24.out.trans ((Below.trans hHeld5 (hb29.mono (Below.size hHeld5))).mono HF24.out.size)).mono HW2.out.size)
        refine hK.out _ _ (hHeld5.next hb29) (fun _ => ?_)
        clear hK K hHeld5 hb29
        try simp only [Act.put, List.setIfInBounds_toArray, List.set_cons_zero, List.set_cons_succ]
        refine takeV 18 (some 154) ((.bool true)) rfl rfl (by kernel_rfl) (by kernel_rfl) (by kernel_rfl) (fun _ _ _ h => h) (by rfl) (by (intro _w _hSw; (try dsimp only at _hSw); go_simp)) (by assumption) ?_
        simp only [Act.put, List.setIfInBounds_toArray, List.set_cons_zero, List.set_cons_succ]
        refine takeV 19 (some 6) ((.bool true)) rfl rfl (by kernel_rfl) (by kernel_rfl) (by kernel_rfl) (fun _ _ _ h => h) (by rfl) (by (intro _w _hSw; (try dsimp only at _hSw); go_simp)) (by assumption) ?_
        simp only [Act.put, List.setIfInBounds_toArray, List.set_cons_zero, List.set_cons_succ]
        refine wpAnyH_done (by kernel_rfl) ?_ _
        go_wp2
        go_ret
        exact ⟨rfl, HEND.out⟩
      | false =>
        have hnm : ¬ mayRel cols0 R = true := by rw [HMB.out]; simp
        have hm : m = 0 := by rw [← HMM.out, if_neg hnm]
        subst hm
        have hc8 : selC cols0 R = 2 := by unfold selC; rw [if_neg hnm]
        rw [hc8] at HK2 HT2
        rw [hc8]
        rw [if_neg (by decide)] at HK2 HT2
        have HL3 : Hid (p2 = []) := HK2.out
        have HT3 : Hid (txR R5 = txR []) := HT2.out
        have HS3 : Hid (SlC wS wS.heap.size none []) := sl1_nil
        have HR3 : Hid (SlR wS wS.heap.size none []) := ⟨sl1_nil, fun r hr => by cases hr⟩
        have HKB : Hid (p2.length ≤ 60 ∧ R5.length ≤ 150 ∧ (∀ r ∈ R5, r.l.length ≤ 1000000000) ∧ R5.length = ([] : List Rw).length) := by
          have h5 : R5.length = 0 := by rw [← txR_len, HT2.out]; rfl
          refine ⟨by rw [HK2.out]; exact Nat.zero_le _, by omega, fun r hr => ?_, by rw [h5]; rfl⟩
          rw [List.length_eq_zero_iff.1 h5] at hr
          cases hr
        clear hnm hc8
        go_upto_region 26 with fail
        have HTO := told_any (.slice Ae p2.length ce) (.slice Af R5.length cf) p2 R5 none none 0 0 [] [] 2 2 wS w16.heap.size HWS.out HOCS.out HARS.out HS3.out HR3.out (by have := HKB.out.1; omega) (by rw [← HL3.out]; have := HKB.out.1; omega) (by have := HKB.out.2.1; omega) (by have := HKB.out.2.1; have := HKB.out.2.2.2; omega) HKB.out.2.2.1 HAP.out
        have hTT : (((2 : Int) == 2) && sameB p2 [] (txR R5) (txR [])) = true := by rw [HL3.out, HT3.out, sameB_yes, beq_self_eq_true]; rfl
        rw [hTT] at HTO
        have HTOL := Lib.hid HTO
        obtain ⟨z0, z1⟩ := HZ8S.out
        obtain ⟨v0, v1⟩ := HZ10S.out
        clear HTO hTT
        go_wp2_with fail
        refine HTOL.out.mono ?_
        rintro e w24 ⟨rfl, hb24⟩
        have hf24 : Below w2.heap.size w2 w24 := HFS.out.trans (hb24.mono HF16.out.size)
        have HF24 := Lib.hid hf24
        have hst24 := HSTS.out.next hb24 (Nat.lt_trans HLV.out.2.1 HLV.out.2.2.1) HLV.out.2.2.1
        have t0 : w24.cell? ⟨w14.heap.size, 0, none⟩ = some (.int .i64 0) := hst24.c
        have t1 := hst24.o
        clear hb24 z0 z1 v0 v1 HTOL hst24 hf24
        have x0 := ((HF24.out).cell (p := ⟨w.heap.size, 0, none⟩) HFX.out.1.2.2).trans HFX.out.1.1
        have x1 := ((HF24.out).cell (p := ⟨w.heap.size, 1, none⟩) HFX.out.1.2.2).trans HFX.out.1.2.1
        have y0 := ((HF24.out).cell (p := ⟨w1.heap.size, 0, none⟩) HFX.out.2.2.2).trans HFX.out.2.1
        have y1 := ((HF24.out).cell (p := ⟨w1.heap.size, 1, none⟩) HFX.out.2.2.2).trans HFX.out.2.2.1
        have HYS := Lib.hid (show _ ∧ _ ∧ _ ∧ _ from ⟨x0, x1, y0, y1⟩)
        go_wp2_with fail
        clear x0 x1 y0 y1 t0 t1
        obtain ⟨wd, hwd⟩ : ∃ wd, w24.drew = wd := ⟨_, rfl⟩
        have HSN : Hid (Snc w24 wd) := by show Snc _ _; rw [← hwd]; exact (Below.refl _ _).drew
        have HLX : Hid (w.heap.size < w24.heap.size ∧ w1.heap.size < w24.heap.size) := ⟨Nat.lt_of_lt_of_le HFX.out.1.2.2 HF24.out.size, Nat.lt_of_lt_of_le HFX.out.2.2.2 HF24.out.size⟩
        refine wp_region_held_drew (S := Snc w24) (by kernel_rfl) (by rw [hwd]; exact HSN.out) (fun hHeld => ?_)
        rw [hwd] at hHeld ⊢
        clear hwd
        refine takeV 0 (some 136) ((.agg #[.slice B0 cols0.length d0, .slice B1 R.length d1])) rfl rfl (by kernel_rfl) (by kernel_rfl) (by kernel_rfl) (fun _ _ _ h => h) (by rfl) (by (intro _w hSw; have k0 := (Below.cell (p := ⟨w1.heap.size, 0, none⟩) hSw HLX.out.2).trans HYS.out.2.2.1; have k1 := (Below.cell (p := ⟨w1.heap.size, 1, none⟩) hSw HLX.out.2).trans HYS.out.2.2.2; clear hSw; go_simp)) (by assumption) ?_
        simp only [Act.put, List.setIfInBounds_toArray, List.set_cons_zero, List.set_cons_succ]
        refine takeV 2 (some 138) ((.bool false)) rfl rfl (by kernel_rfl) (by kernel_rfl) (by kernel_rfl) (fun _ _ _ h => h) (by rfl) (by (intro _w _hSw; (try dsimp only at _hSw); go_simp)) (by assumption) ?_
        simp only [Act.put, List.setIfInBounds_toArray, List.set_cons_zero, List.set_cons_succ]
        refine callV 1 rfl (by kernel_rfl) (by rfl) (fun K hK => ?_)
        go_simp
        refine (HMY.out _ (HF24.out.trans (Below.mono hHeld HF24.out.size))).mono ?_
        rintro e w25 ⟨rfl, hb25⟩
        refine hK.out _ _ (hHeld.next hb25) (fun hHeld2 => ?_)
        clear hK K hHeld hb25
        try simp only [Act.put, List.setIfInBounds_toArray, List.set_cons_zero, List.set_cons_succ]
        refine takeV 3 (some 139) ((.bool true)) rfl rfl (by kernel_rfl) (by kernel_rfl) (by kernel_rfl) (fun _ _ _ h => h) (by rfl) (by (intro _w _hSw; (try dsimp only at _hSw); go_simp)) (by assumption) ?_
        simp only [Act.put, List.setIfInBounds_toArray, List.set_cons_zero, List.set_cons_succ]
        refine takeV 4 (some 140) ((.bool true)) rfl rfl (by kernel_rfl) (by kernel_rfl) (by kernel_rfl) (fun _ _ _ h => h) (by rfl) (by (intro _w _hSw; (try dsimp only at _hSw); go_simp)) (by assumption) ?_
        simp only [Act.put, List.setIfInBounds_toArray, List.set_cons_zero, List.set_cons_succ]
        refine takeV 5 (some 141) ((.agg #[.slice B0 cols0.length d0, .slice B1 R.length d1])) rfl rfl (by kernel_rfl) (by kernel_rfl) (by kernel_rfl) (fun _ _ _ h => h) (by rfl) (by (intro _w hSw; have k0 := (Below.cell (p := ⟨w1.heap.size, 0, none⟩) hSw HLX.out.2).trans HYS.out.2.2.1; have k1 := (Below.cell (p := ⟨w1.heap.size, 1, none⟩) hSw HLX.out.2).trans HYS.out.2.2.2; clear hSw; go_simp)) (by assumption) ?_
        simp only [Act.put, List.setIfInBounds_toArray, List.set_cons_zero, List.set_cons_succ]
        refine takeV 6 (some 142) ((.slice X1 lx.length X2)) rfl rfl (by kernel_rfl) (by kernel_rfl) (by kernel_rfl) (fun _ _ _ h => h) (by rfl) (by (intro _w _hSw; (try dsimp only at _hSw); go_simp)) (by assumption) ?_
        simp only [Act.put, List.setIfInBounds_toArray, List.set_cons_zero, List.set_cons_succ]
        refine takeV 8 (some 144) ((.agg #[.slice A0 cols0.length c0, .slice A1 R.length c1])) rfl rfl (by kernel_rfl) (by kernel_rfl) (by kernel_rfl) (fun _ _ _ h => h) (by rfl) (by (intro _w hSw; have k0 := (Below.cell (p := ⟨w.heap.size, 0, none⟩) hSw HLX.out.1).trans HYS.out.1; have k1 := (Below.cell (p := ⟨w.heap.size, 1, none⟩) hSw HLX.out.1).trans HYS.out.2.1; clear hSw; go_simp)) (by assumption) ?_
        simp only [Act.put, List.setIfInBounds_toArray, List.set_cons_zero, List.set_cons_succ]
        refine takeV 10 (some 146) ((.slice X1 lx.length X2)) rfl rfl (by kernel_rfl) (by kernel_rfl) (by kernel_rfl) (fun _ _ _ h => h) (by rfl) (by (intro _w _hSw; (try dsimp only at _hSw); go_simp)) (by assumption) ?_
        simp only [Act.put, List.setIfInBounds_toArray, List.set_cons_zero, List.set_cons_succ]
        refine callV 7 rfl (by kernel_rfl) (by rfl) (fun K hK => ?_)
        go_simp
        refine (HHS.out _ (HF24.out.trans (Below.mono hHeld2 HF24.out.size))).mono ?_
        rintro e w26 ⟨rfl, hb26⟩
        refine hK.out _ _ (hHeld2.next hb26) (fun hHeld3 => ?_)
        clear hK K hHeld2 hb26
        try simp only [Act.put, List.setIfInBounds_toArray, List.set_cons_zero, List.set_cons_succ]
        refine callV 9 rfl (by kernel_rfl) (by rfl) (fun K hK => ?_)
        go_simp
        refine (ref_any _ _ _ _ _ _ _ _ rfl rfl _).mono ?_
        rintro e w27 ⟨rfl, hb27⟩
        refine hK.out _ _ (hHeld3.next hb27) (fun hHeld4 => ?_)
        clear hK K hHeld3 hb27
        try simp only [Act.put, List.setIfInBounds_toArray, List.set_cons_zero, List.set_cons_succ]
        refine callV 11 rfl (by kernel_rfl) (by rfl) (fun K hK => ?_)
        go_simp
        refine (HRH.out _ (HF24.out.trans (Below.mono hHeld4 HF24.out.size))).mono ?_
        rintro e w28 ⟨rfl, hb28⟩
        refine hK.out _ _ (hHeld4.next hb28) (fun hHeld5 => ?_)
        clear hK K hHeld4 hb28
        try simp only [Act.put, List.setIfInBounds_toArray, List.set_cons_zero, List.set_cons_succ]
        refine takeV 12 (some 148) ((.bool true)) rfl rfl (by kernel_rfl) (by kernel_rfl) (by kernel_rfl) (fun _ _ _ h => h) (by rfl) (by (intro _w _hSw; (try dsimp only at _hSw); go_simp)) (by assumption) ?_
        simp only [Act.put, List.setIfInBounds_toArray, List.set_cons_zero, List.set_cons_succ]
        refine takeV 13 (some 149) ((.bool true)) rfl rfl (by kernel_rfl) (by kernel_rfl) (by kernel_rfl) (fun _ _ _ h => h) (by rfl) (by (intro _w _hSw; (try dsimp only at _hSw); go_simp)) (by assumption) ?_
        simp only [Act.put, List.setIfInBounds_toArray, List.set_cons_zero, List.set_cons_succ]
        refine takeV 14 (some 150) ((.bool true)) rfl rfl (by kernel_rfl) (by kernel_rfl) (by kernel_rfl) (fun _ _ _ h => h) (by rfl) (by (intro _w _hSw; (try dsimp only at _hSw); go_simp)) (by assumption) ?_
        simp only [Act.put, List.setIfInBounds_toArray, List.set_cons_zero, List.set_cons_succ]
        refine takeV 15 (some 151) ((.agg #[.slice B0 cols0.length d0, .slice B1 R.length d1])) rfl rfl (by kernel_rfl) (by kernel_rfl) (by kernel_rfl) (fun _ _ _ h => h) (by rfl) (by (intro _w hSw; have k0 := (Below.cell (p := ⟨w1.heap.size, 0, none⟩) hSw HLX.out.2).trans HYS.out.2.2.1; have k1 := (Below.cell (p := ⟨w1.heap.size, 1, none⟩) hSw HLX.out.2).trans HYS.out.2.2.2; clear hSw; go_simp)) (by assumption) ?_
        simp only [Act.put, List.setIfInBounds_toArray, List.set_cons_zero, List.set_cons_succ]
        refine takeV 16 (some 152) ((.agg #[.slice A0 cols0.length c0, .slice A1 R.length c1])) rfl rfl (by kernel_rfl) (by kernel_rfl) (by kernel_rfl) (fun _ _ _ h => h) (by rfl) (by (intro _w hSw; have k0 := (Below.cell (p := ⟨w.heap.size, 0, none⟩) hSw HLX.out.1).trans HYS.out.1; have k1 := (Below.cell (p := ⟨w.heap.size, 1, none⟩) hSw HLX.out.1).trans HYS.out.2.1; clear hSw; go_simp)) (by assumption) ?_
        simp only [Act.put, List.setIfInBounds_toArray, List.set_cons_zero, List.set_cons_succ]
        refine callV 17 rfl (by kernel_rfl) (by rfl) (fun K hK => ?_)
        go_simp
        refine (HSA.out _ (HF24.out.trans (Below.mono hHeld5 HF24.out.size))).mono ?_
        rintro e w29 ⟨rfl, hb29⟩
        have HEND : Hid (Below w.heap.size w w29) := HW2.out.trans ((HF24.out.trans ((Below.trans hHeld5 (hb29.mono (Below.size hHeld5))).mono HF24.out.size)).mono HW2.out.size)
        refine hK.out _ _ (hHeld5.next hb29) (fun _ => ?_)
        clear hK K hHeld5 hb29
        try simp only [Act.put, List.setIfInBounds_toArray, List.set_cons_zero, List.set_cons_succ]
        refine takeV 18 (some 154) ((.bool true)) rfl rfl (by kernel_rfl) (by kernel_rfl) (by kernel_rfl) (fun _ _ _ h => h) (by rfl) (by (intro _w _hSw; (try dsimp only at _hSw); go_simp)) (by assumption) ?_
        simp only [Act.put, List.setIfInBounds_toArray, List.set_cons_zero, List.set_cons_succ]
        refine takeV 19 (some 6) ((.bool true)) rfl rfl (by kernel_rfl) (by kernel_rfl) (by kernel_rfl) (fun _ _ _ h => h) (by rfl) (by (intro _w _hSw; (try dsimp only at _hSw); go_simp)) (by assumption) ?_
        simp only [Act.put, List.setIfInBounds_toArray, List.set_cons_zero, List.set_cons_succ]
        refine wpAnyH_done (by kernel_rfl) ?_ _
        go_wp2
        go_ret
        exact ⟨rfl, HEND.out⟩
end Go.Proofs.Ytafnhhbdcleihaa
