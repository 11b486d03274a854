/-
  THE LAW TreeParts.
-/
import Derived.Test.YthldmdcjfeekeaaQPartsP
namespace Go.Proofs.Ythldmdcjfeekeaa
open Go.RowKit

def LawEnd (w : World) (e : Ending) (w' : World) : Prop := e = .returned (.bool true) ∧ Below w.heap.size w w'
set_option maxRecDepth 100000 in
set_option maxHeartbeats 8000000 in
theorem parts_law (A : Option Addr) (c : Nat) (l : List OpP) (B : Option Addr) (d : Nat) (key : By) (w : World) (hs : SlO w A l) (hl : l.length ≤ 9223372036854775807) (hk : SlB w w.heap.size B key) (_hkl : key.length ≤ 9223372036854775807) :
    Calls Try.prog 8 #[.slice A l.length c, .slice B key.length d] w (LawEnd w) := by
  have HS := Lib.hid hs
  have HK := Lib.hid hk
  have HL9 := Lib.hid hl
  clear hs hk hl
  go_enter Try.func8, Try.ntmps8
  go_wp2_with fail
  refine (alive_any w).mono ?_
  rintro e w1 ⟨rfl, hb1⟩
  have HB1 := Lib.hid hb1
  have HG := Lib.hid (great_any A c l w1 (HS.out.next hb1) HL9.out)
  clear hb1
  go_wp2_with fail
  refine HG.out.mono ?_
  rintro e w' ⟨gr, rfl, rfl, hgr⟩
  cases gr with
  | true =>
    have HF : Hid (LawEnd w (.returned (.bool true)) w1) := ⟨rfl, HB1.out⟩
    clear hgr
    go_wp2
    go_ret
    exact HF.out
  | false =>
  have HGR := Lib.hid (hgr rfl)
  clear hgr HG
  by_cases g1 : (key.length : Int) < 1
  · have g1' : decide ((key.length : Int) < 1) = true := decide_eq_true g1
    have HF : Hid (LawEnd w (.returned (.bool true)) w1) := ⟨rfl, HB1.out⟩
    go_wp2
    go_ret
    exact HF.out
  have g1' : decide ((key.length : Int) < 1) = false := decide_eq_false g1
  by_cases g2 : (5000 : Int) < (key.length : Int)
  · have g2' : decide ((5000 : Int) < (key.length : Int)) = true := decide_eq_true g2
    have HF : Hid (LawEnd w (.returned (.bool true)) w1) := ⟨rfl, HB1.out⟩
    go_wp2
    go_ret
    exact HF.out
  have g2' : decide ((5000 : Int) < (key.length : Int)) = false := decide_eq_false g2
  have HNE : Hid (key ≠ []) := fun e => by rw [e] at g1; simp at g1
  have HGW := Lib.hid (grown_any A c l w1 (HS.out.next HB1.out) HGR.out.1)
  go_wp2_with fail
  clear g1 g1' g2 g2'
  refine HGW.out.mono ?_
  rintro e w2 ⟨u, L, rfl, ht2, hL, _, hb2⟩
  have hL1 : L.length ≤ 100 := Nat.le_trans hL HGR.out.1
  have HB2 := Lib.hid (HB1.out.trans (hb2.mono HB1.out.size))
  have HT2 := Lib.hid ht2
  have HR := Lib.hid ht2.rise
  have HLN := Lib.hid hL1
  have HR1 := Lib.hid (rangeM_any none B 0 d [] key 1000 w2 ht2 (fun h => absurd rfl h) (slB_up HK.out HB2.out))
  have elo : rgL key 1000 (fromL [] L) = L.take (rankL L key) := by rw [fromL_nil, rgL_to HNE.out ht2.rise (by omega), low_is ht2.rise]
  rw [elo] at HR1
  have ehi : rgL [] 1000 (fromL key L) = L.drop (rankL L key) := by rw [rgL_all (by have : (fromL key L).length ≤ L.length := List.length_filter_le _ _; omega), high_is ht2.rise]
  have HEH := Lib.hid ehi
  have HRL := Lib.hid (rank_le L key)
  clear ht2 hL hL1 hb2 HGW elo ehi
  go_wp2_with fail
  refine HR1.out.mono ?_
  rintro e w3 ⟨v3, qs, rfl, ho3, hq3, hb3⟩
  obtain ⟨A3, c3, rfl⟩ := ho3.form
  have HO3 := Lib.hid ho3
  have HQ3 := Lib.hid hq3
  have HB3 := Lib.hid (HB2.out.trans (hb3.mono HB2.out.size))
  have HT3 := Lib.hid (HT2.out.next hb3)
  have HR2 := Lib.hid (rangeM_any B none d 0 key [] 1000 w3 HT3.out (slB_up HK.out HB3.out) (fun h => absurd rfl h))
  rw [HEH.out] at HR2
  clear ho3 hq3 hb3 HR1
  go_wp2_with fail
  refine HR2.out.mono ?_
  rintro e w4 ⟨v4, qr, rfl, ho4, hq4, hb4⟩
  obtain ⟨A4, c4, rfl⟩ := ho4.form
  have HO4 := Lib.hid ho4
  have HQ4 := Lib.hid hq4
  have HO34 := Lib.hid (HO3.out.next hb4)
  have HB4 := Lib.hid (HB3.out.trans (hb4.mono HB3.out.size))
  have HT4 := Lib.hid (HT3.out.next hb4)
  have HRK := Lib.hid (rankM_any B d key w4 HT4.out (slB_up HK.out HB4.out))
  clear ho4 hq4 hb4 HR2
  go_wp2_with fail
  refine HRK.out.mono ?_
  rintro e w' ⟨rfl, rfl⟩
  have hn3 : qs.length = rankL L key := by have := congrArg List.length HQ3.out; rw [List.length_map, List.length_take] at this; have := HRL.out; omega
  have hn4 : qr.length + rankL L key = L.length := by have := congrArg List.length HQ4.out; rw [List.length_map, List.length_drop] at this; have := HRL.out; omega
  have HN3 := Lib.hid hn3
  have HN4 := Lib.hid hn4
  have HLE := Lib.hid (len_any w4 HT4.out)
  obtain ⟨r, hr⟩ : ∃ r, rankL L key = r := ⟨_, rfl⟩
  have HRE := Lib.hid hr
  rw [hr] at hn3 hn4 ⊢
  have hsum : ((qs.length : Int) + (qr.length : Int)) = (L.length : Int) := by omega
  have hln2 : L.length ≤ 100 := HLN.out
  have hns : (((qs.length : Int) + (qr.length : Int)) != (L.length : Int)) = false := by rw [hsum]; simp
  have hws : wrap64 ((qs.length : Int) + (qr.length : Int)) = (L.length : Int) := by rw [hsum]; unfold wrap64; omega
  have hnr : ((qs.length : Int) != (r : Int)) = false := by rw [hn3]; simp
  clear hr HRK
  clear hn3 hn4 hsum
  go_wp2_with fail
  refine HLE.out.mono ?_
  rintro e w' ⟨rfl, rfl⟩
  have HSK := Lib.hid (seekM_any B d key w4 HT4.out (slB_up HK.out HB4.out) (Nat.le_refl _))
  rw [HRE.out] at HSK
  go_wp2_with fail
  refine HSK.out.mono ?_
  rintro e w5 h5
  obtain ⟨pa, hpa⟩ : ∃ x, atP L (r : Nat) = x := ⟨_, rfl⟩
  obtain ⟨bi, hbi⟩ : ∃ x, isP L (r : Nat) = x := ⟨_, rfl⟩
  obtain ⟨Aa, ca, Av, cv, rfl, ka, ya, hb5⟩ := prEnd_of (k := pa.1) (x := pa.2) h5 (by rw [hpa]) hbi
  have HPA := Lib.hid hpa
  have HBI := Lib.hid hbi
  clear h5 hpa hbi HSK HLE
  obtain ⟨w6, hw6⟩ : ∃ X, w5.alloc (.cells #[.slice Aa pa.1.length ca, .slice Av pa.2.length cv] 57) = X := ⟨_, rfl⟩
  have hb56 : Below w5.heap.size w5 w6 := by rw [← hw6]; exact (Below.refl _ _).alloc (Nat.le_refl _) _
  have hb46 : Below w4.heap.size w4 w6 := hb5.trans (hb56.mono hb5.size)
  have HP6 : Hid (PBox w6 w5.heap.size (.slice Aa pa.1.length ca) (.slice Av pa.2.length cv)) := by show PBox _ _ _ _; rw [← hw6]; exact heap_alloc_new w5 _
  have HKA6 := Lib.hid (slB_up ka hb56)
  have HYA6 := Lib.hid (slB_up ya hb56)
  have HT6 := Lib.hid (HT4.out.next hb46)
  have HB6 := Lib.hid (HB4.out.trans (hb46.mono HB4.out.size))
  have H46 := Lib.hid hb46
  have HBK := Lib.hid (backM_any B d key w6 HT6.out (slB_up HK.out HB6.out) (Nat.le_refl _))
  rw [HRE.out] at HBK
  clear ka ya hb5 hb56 hb46
  go_wp2_with fail
  try rw [hw6]
  clear hw6
  refine HBK.out.mono ?_
  rintro e w7 h7
  obtain ⟨pb, hpb⟩ : ∃ x, atP L ((r : Nat) - 1) = x := ⟨_, rfl⟩
  obtain ⟨bw, hbw⟩ : ∃ x, isP L ((r : Nat) - 1) = x := ⟨_, rfl⟩
  obtain ⟨Ab, cb, Au, cu, rfl, kb, yb, hb7⟩ := prEnd_of (k := pb.1) (x := pb.2) h7 (by rw [hpb]) hbw
  have HPB := Lib.hid hpb
  have HBW := Lib.hid hbw
  clear h7 hpb hbw HBK
  obtain ⟨w8, hw8⟩ : ∃ X, w7.alloc (.cells #[.slice Ab pb.1.length cb, .slice Au pb.2.length cu] 57) = X := ⟨_, rfl⟩
  have hb78 : Below w7.heap.size w7 w8 := by rw [← hw8]; exact (Below.refl _ _).alloc (Nat.le_refl _) _
  have hb68 : Below w6.heap.size w6 w8 := hb7.trans (hb78.mono hb7.size)
  have hb48 := H46.out.trans (hb68.mono H46.out.size)
  have HP8 : Hid (PBox w8 w7.heap.size (.slice Ab pb.1.length cb) (.slice Au pb.2.length cu)) := by show PBox _ _ _ _; rw [← hw8]; exact heap_alloc_new w7 _
  have HP68 := Lib.hid (HP6.out.next hb68 HP6.out.lt)
  have HKB8 := Lib.hid (slB_up kb hb78)
  have HYB8 := Lib.hid (slB_up yb hb78)
  have HKA8 := Lib.hid (slB_up HKA6.out hb68)
  have HYA8 := Lib.hid (slB_up HYA6.out hb68)
  have HOL8 := Lib.hid (HO34.out.next hb48)
  have HOH8 := Lib.hid (HO4.out.next hb48)
  have HB8 := Lib.hid (HB4.out.trans (hb48.mono HB4.out.size))
  have HKK8 := Lib.hid (slB_up HK.out HB8.out)
  clear kb yb hb7 hb78 hb68 hb48
  have hn3 := HN3.out
  have hn4 := HN4.out
  rw [HRE.out] at hn3 hn4
  have hbi2 : bi = decide (r < L.length) := by rw [← HBI.out]; unfold isP; congr 1; simp
  have hbw2 : bw = decide (0 < r) := by rw [← HBW.out]; unfold isP; congr 1; simp; omega
  have HIH : Hid (r < L.length → L[r]? = some pa ∧ 0 ≤ ordL pa.1 key) := fun h => by
    have h1 : L[r]? = some pa := by rw [← HPA.out]; unfold atP; rw [if_pos (by omega)]; simp [h]
    refine ⟨h1, (rise_split HR.out key).2 pa ?_⟩
    rw [HRE.out]
    have h2 : (L.drop r)[0]? = some pa := by rw [List.getElem?_drop]; simpa using h1
    exact List.mem_of_getElem? h2
  have HIL : Hid (0 < r → L[r - 1]? = some pb ∧ ordL pb.1 key = -1) := fun h => by
    have hlt : r - 1 < L.length := by have := HRL.out; rw [HRE.out] at this; omega
    have h1 : L[r - 1]? = some pb := by
      rw [← HPB.out]
      unfold atP
      rw [if_pos (by omega), show ((r : Int) - 1).toNat = r - 1 by omega, List.getElem?_eq_getElem hlt]
      rfl
    refine ⟨h1, (rise_split HR.out key).1 pb ?_⟩
    rw [HRE.out]
    have h2 : (L.take r)[r - 1]? = some pb := by rw [List.getElem?_take, if_pos (by omega)]; exact h1
    exact List.mem_of_getElem? h2
  clear HPA HBI HPB HBW
  have HN3b := Lib.hid hn3
  have HN4b := Lib.hid hn4
  by_cases gi : r < L.length
  · have e1 : bi = true := by rw [hbi2]; exact decide_eq_true gi
    clear hbi2
    subst e1
    by_cases gw : 0 < r
    · have e2 : bw = true := by rw [hbw2]; exact decide_eq_true gw
      clear hbw2
      subst e2
      have zi : decide (0 < qr.length) = true := decide_eq_true (by omega)
      have zw : decide (0 < qs.length) = true := decide_eq_true (by omega)
      have zi2 : 0 < qr.length := by omega
      have zw2 : 0 < qs.length := by omega
      clear hn3 hn4
      go_wp2_with fail
      try rw [hw8]
      clear hw8
      obtain ⟨hia, hoa⟩ := HIH.out gi
      obtain ⟨gh, H1, k1, H2, k2, rfl, hgl, hc1, hc2, hs1, hs2⟩ := HOH8.out.pair HQ4.out (i := 0) (p := pa) (by rw [HRE.out, List.getElem?_drop]; simpa using hia)
      have HC1 := Lib.hid hc1
      have HC2 := Lib.hid hc2
      have HGL := Lib.hid hgl
      have HTA := Lib.hid (fun X (hX : Below w8.heap.size w8 X) => toldB_any H1 H2 k1 k2 pa true ⟨pa.1.toArray⟩ ⟨pa.2.toArray⟩ (slB_up hs1 hX) (slB_up hs2 hX))
      rw [toldE_self] at HTA
      have hbl : Op.bytesLess pa.1 key = false := bless_ge hoa
      have HSA1 := Lib.hid (fun X (hX : Below w8.heap.size w8 X) => slB_string (slB_up HKA8.out hX) ca)
      have HSA2 := Lib.hid (fun X (hX : Below w8.heap.size w8 X) => slB_string (slB_up HYA8.out hX) cv)
      clear hia hoa hc1 hc2 hs1 hs2 hgl
      obtain ⟨hib, hob⟩ := HIL.out gw
      obtain ⟨rq, rfl⟩ : ∃ rq, r = rq + 1 := ⟨r - 1, by omega⟩
      obtain ⟨gl, L1, j1, L2, j2, rfl, hgl, hc1, hc2, hs1, hs2⟩ := HOL8.out.pair HQ3.out (i := rq) (p := pb) (by rw [HRE.out, List.getElem?_take, if_pos (by omega)]; simpa using hib)
      have HD1 := Lib.hid hc1
      have HD2 := Lib.hid hc2
      have HDL := Lib.hid hgl
      have HTB := Lib.hid (fun X (hX : Below w8.heap.size w8 X) => toldB_any L1 L2 j1 j2 pb true ⟨pb.1.toArray⟩ ⟨pb.2.toArray⟩ (slB_up hs1 hX) (slB_up hs2 hX))
      rw [toldE_self] at HTB
      have hbm : Op.bytesLess pb.1 key = true := bless_lt hob
      have HSB1 := Lib.hid (fun X (hX : Below w8.heap.size w8 X) => slB_string (slB_up HKB8.out hX) cb)
      have HSB2 := Lib.hid (fun X (hX : Below w8.heap.size w8 X) => slB_string (slB_up HYB8.out hX) cu)
      have hq1 : ((qs.length : Int) - 1) = (rq : Int) := by have := HN3b.out; omega
      have hq2 : (rq : Int) < (qs.length : Int) := by have := HN3b.out; omega
      have hq3 : 0 ≤ (rq : Int) := by omega
      have hq4 : IntKind.i64.wrap (rq : Int) = (rq : Int) := by have h1 := HRL.out; rw [HRE.out] at h1; have h2 := HLN.out; exact IntWalk.i64_in _ (by omega)
      clear hib hob hc1 hc2 hs1 hs2 hgl
      have HS0 := Lib.hid (qb_dn (Below.refl w8.heap.size w8) 1)
      obtain ⟨we, hwe⟩ : ∃ X, w8.drew = X := ⟨_, rfl⟩
      refine wp_region_held_drew (S := fun X => Below w8.heap.size w8 X) (by kernel_rfl) HS0.out (fun hHeld => ?_)
      rw [hwe] at hHeld ⊢
      clear hwe HS0
      refine takeV 0 (some 81) ((.bool true)) rfl rfl (by kernel_rfl) (by kernel_rfl) (by kernel_rfl) (fun _ _ _ h => h) (by rfl) (by (intro _w _hSw; (try dsimp only at _hSw); go_simp)) (by assumption) ?_
      simp only [Act.put, List.setIfInBounds_toArray, List.set_cons_zero, List.set_cons_succ]
      refine takeV 1 (some 82) ((.bool true)) rfl rfl (by kernel_rfl) (by kernel_rfl) (by kernel_rfl) (fun _ _ _ h => h) (by rfl) (by (intro _w _hSw; (try dsimp only at _hSw); go_simp)) (by assumption) ?_
      simp only [Act.put, List.setIfInBounds_toArray, List.set_cons_zero, List.set_cons_succ]
      refine takeV 2 (some 83) ((.slice (some ⟨gh, 0, none⟩) qr.length c4)) rfl rfl (by kernel_rfl) (by kernel_rfl) (by kernel_rfl) (fun _ _ _ h => h) (by rfl) (by (intro _w _hSw; (try dsimp only at _hSw); go_simp)) (by assumption) ?_
      simp only [Act.put, List.setIfInBounds_toArray, List.set_cons_zero, List.set_cons_succ]
      refine takeV 3 (some 84) ((.pointer (some ⟨gh, 0, none⟩))) rfl rfl (by kernel_rfl) (by kernel_rfl) (by kernel_rfl) (fun _ _ _ h => h) (by rfl) (by (intro _w _hSw; (try dsimp only at _hSw); go_simp)) (by assumption) ?_
      simp only [Act.put, List.setIfInBounds_toArray, List.set_cons_zero, List.set_cons_succ]
      refine takeV 4 (some 85) ((.agg #[.slice H1 pa.1.length k1, .slice H2 pa.2.length k2])) rfl rfl (by kernel_rfl) (by kernel_rfl) (by kernel_rfl) (fun _ _ _ h => h) (by rfl) (by (intro _w hSw; have q0 : _w.cell? ⟨gh, 0, none⟩ = _ := (hSw.cell (p := ⟨gh, 0, none⟩) HGL.out).trans HC1.out; have q1 : _w.cell? ⟨gh, 1, none⟩ = _ := (hSw.cell (p := ⟨gh, 1, none⟩) HGL.out).trans HC2.out; clear hSw; go_simp)) (by assumption) ?_
      simp only [Act.put, List.setIfInBounds_toArray, List.set_cons_zero, List.set_cons_succ]
      refine takeV 5 (some 86) ((.pointer (some ⟨w5.heap.size, 0, none⟩))) rfl rfl (by kernel_rfl) (by kernel_rfl) (by kernel_rfl) (fun _ _ _ h => h) (by rfl) (by (intro _w _hSw; (try dsimp only at _hSw); go_simp)) (by assumption) ?_
      simp only [Act.put, List.setIfInBounds_toArray, List.set_cons_zero, List.set_cons_succ]
      refine takeV 6 (some 87) ((.slice Aa pa.1.length ca)) rfl rfl (by kernel_rfl) (by kernel_rfl) (by kernel_rfl) (fun _ _ _ h => h) (by rfl) (by (intro _w hSw; have hx := HP68.out.next hSw HP68.out.lt; have q0 := hx.c0; clear hSw; go_simp)) (by assumption) ?_
      simp only [Act.put, List.setIfInBounds_toArray, List.set_cons_zero, List.set_cons_succ]
      refine takeV 7 (some 88) ((.string ⟨pa.1.toArray⟩)) rfl rfl (by kernel_rfl) (by kernel_rfl) (by kernel_rfl) (fun _ _ _ h => h) (by rfl) (by (intro _w hSw; have q0 := HSA1.out _w hSw; clear hSw; go_simp)) (by assumption) ?_
      simp only [Act.put, List.setIfInBounds_toArray, List.set_cons_zero, List.set_cons_succ]
      refine takeV 8 (some 89) ((.pointer (some ⟨w5.heap.size, 1, none⟩))) rfl rfl (by kernel_rfl) (by kernel_rfl) (by kernel_rfl) (fun _ _ _ h => h) (by rfl) (by (intro _w _hSw; (try dsimp only at _hSw); go_simp)) (by assumption) ?_
      simp only [Act.put, List.setIfInBounds_toArray, List.set_cons_zero, List.set_cons_succ]
      refine takeV 9 (some 90) ((.slice Av pa.2.length cv)) rfl rfl (by kernel_rfl) (by kernel_rfl) (by kernel_rfl) (fun _ _ _ h => h) (by rfl) (by (intro _w hSw; have hx := HP68.out.next hSw HP68.out.lt; have q0 := hx.c1; clear hSw; go_simp)) (by assumption) ?_
      simp only [Act.put, List.setIfInBounds_toArray, List.set_cons_zero, List.set_cons_succ]
      refine takeV 10 (some 91) ((.string ⟨pa.2.toArray⟩)) rfl rfl (by kernel_rfl) (by kernel_rfl) (by kernel_rfl) (fun _ _ _ h => h) (by rfl) (by (intro _w hSw; have q0 := HSA2.out _w hSw; clear hSw; go_simp)) (by assumption) ?_
      simp only [Act.put, List.setIfInBounds_toArray, List.set_cons_zero, List.set_cons_succ]
      refine callV 11 rfl (by kernel_rfl) (by rfl) (fun K hK => ?_)
      go_simp
      refine (HTA.out _ hHeld).mono ?_
      rintro e wf ⟨rfl, hbf⟩
      refine hK.out _ _ (below_more hHeld hbf hHeld.size) (fun hHeld2 => ?_)
      clear hK K hHeld hbf
      have hHeld := hHeld2
      clear hHeld2
      try simp only [Act.put, List.setIfInBounds_toArray, List.set_cons_zero, List.set_cons_succ]
      refine takeV 12 (some 93) ((.bool false)) rfl rfl (by kernel_rfl) (by kernel_rfl) (by kernel_rfl) (fun _ _ _ h => h) (by rfl) (by (intro _w _hSw; (try dsimp only at _hSw); go_simp)) (by assumption) ?_
      simp only [Act.put, List.setIfInBounds_toArray, List.set_cons_zero, List.set_cons_succ]
      refine takeV 13 (some 94) ((.bool false)) rfl rfl (by kernel_rfl) (by kernel_rfl) (by kernel_rfl) (fun _ _ _ h => h) (by rfl) (by (intro _w _hSw; (try dsimp only at _hSw); go_simp)) (by assumption) ?_
      simp only [Act.put, List.setIfInBounds_toArray, List.set_cons_zero, List.set_cons_succ]
      refine takeV 14 (some 95) ((.bool false)) rfl rfl (by kernel_rfl) (by kernel_rfl) (by kernel_rfl) (fun _ _ _ h => h) (by rfl) (by (intro _w _hSw; (try dsimp only at _hSw); go_simp)) (by assumption) ?_
      simp only [Act.put, List.setIfInBounds_toArray, List.set_cons_zero, List.set_cons_succ]
      refine takeV 15 (some 96) ((.bool true)) rfl rfl (by kernel_rfl) (by kernel_rfl) (by kernel_rfl) (fun _ _ _ h => h) (by rfl) (by (intro _w _hSw; (try dsimp only at _hSw); go_simp)) (by assumption) ?_
      simp only [Act.put, List.setIfInBounds_toArray, List.set_cons_zero, List.set_cons_succ]
      refine takeV 16 (some 97) ((.bool true)) rfl rfl (by kernel_rfl) (by kernel_rfl) (by kernel_rfl) (fun _ _ _ h => h) (by rfl) (by (intro _w _hSw; (try dsimp only at _hSw); go_simp)) (by assumption) ?_
      simp only [Act.put, List.setIfInBounds_toArray, List.set_cons_zero, List.set_cons_succ]
      refine takeV 17 (some 98) ((.slice (some ⟨gl, 0, none⟩) qs.length c3)) rfl rfl (by kernel_rfl) (by kernel_rfl) (by kernel_rfl) (fun _ _ _ h => h) (by rfl) (by (intro _w _hSw; (try dsimp only at _hSw); go_simp)) (by assumption) ?_
      simp only [Act.put, List.setIfInBounds_toArray, List.set_cons_zero, List.set_cons_succ]
      refine takeV 18 (some 99) ((.slice (some ⟨gl, 0, none⟩) qs.length c3)) rfl rfl (by kernel_rfl) (by kernel_rfl) (by kernel_rfl) (fun _ _ _ h => h) (by rfl) (by (intro _w _hSw; (try dsimp only at _hSw); go_simp)) (by assumption) ?_
      simp only [Act.put, List.setIfInBounds_toArray, List.set_cons_zero, List.set_cons_succ]
      refine takeV 19 (some 100) ((.int .i64 qs.length)) rfl rfl (by kernel_rfl) (by kernel_rfl) (by kernel_rfl) (fun _ _ _ h => h) (by rfl) (by (intro _w _hSw; (try dsimp only at _hSw); go_simp)) (by assumption) ?_
      simp only [Act.put, List.setIfInBounds_toArray, List.set_cons_zero, List.set_cons_succ]
      refine takeV 20 (some 101) ((.int .i64 rq)) rfl rfl (by kernel_rfl) (by kernel_rfl) (by kernel_rfl) (fun _ _ _ h => h) (by rfl) (by (intro _w _hSw; (try dsimp only at _hSw); go_simp)) (by assumption) ?_
      simp only [Act.put, List.setIfInBounds_toArray, List.set_cons_zero, List.set_cons_succ]
      refine takeV 21 (some 102) ((.pointer (some ⟨gl, rq * 2, none⟩))) rfl rfl (by kernel_rfl) (by kernel_rfl) (by kernel_rfl) (fun _ _ _ h => h) (by rfl) (by (intro _w _hSw; (try dsimp only at _hSw); go_simp)) (by assumption) ?_
      simp only [Act.put, List.setIfInBounds_toArray, List.set_cons_zero, List.set_cons_succ]
      refine takeV 22 (some 103) ((.agg #[.slice L1 pb.1.length j1, .slice L2 pb.2.length j2])) rfl rfl (by kernel_rfl) (by kernel_rfl) (by kernel_rfl) (fun _ _ _ h => h) (by rfl) (by (intro _w hSw; have q0 := (hSw.cell (p := ⟨gl, rq * 2, none⟩) HDL.out).trans HD1.out; have q1 := (hSw.cell (p := ⟨gl, rq * 2 + 1, none⟩) HDL.out).trans HD2.out; clear hSw; go_simp)) (by assumption) ?_
      simp only [Act.put, List.setIfInBounds_toArray, List.set_cons_zero, List.set_cons_succ]
      refine takeV 23 (some 104) ((.pointer (some ⟨w7.heap.size, 0, none⟩))) rfl rfl (by kernel_rfl) (by kernel_rfl) (by kernel_rfl) (fun _ _ _ h => h) (by rfl) (by (intro _w _hSw; (try dsimp only at _hSw); go_simp)) (by assumption) ?_
      simp only [Act.put, List.setIfInBounds_toArray, List.set_cons_zero, List.set_cons_succ]
      refine takeV 24 (some 105) ((.slice Ab pb.1.length cb)) rfl rfl (by kernel_rfl) (by kernel_rfl) (by kernel_rfl) (fun _ _ _ h => h) (by rfl) (by (intro _w hSw; have hx := HP8.out.next hSw HP8.out.lt; have q0 := hx.c0; clear hSw; go_simp)) (by assumption) ?_
      simp only [Act.put, List.setIfInBounds_toArray, List.set_cons_zero, List.set_cons_succ]
      refine takeV 25 (some 106) ((.string ⟨pb.1.toArray⟩)) rfl rfl (by kernel_rfl) (by kernel_rfl) (by kernel_rfl) (fun _ _ _ h => h) (by rfl) (by (intro _w hSw; have q0 := HSB1.out _w hSw; clear hSw; go_simp)) (by assumption) ?_
      simp only [Act.put, List.setIfInBounds_toArray, List.set_cons_zero, List.set_cons_succ]
      refine takeV 26 (some 107) ((.pointer (some ⟨w7.heap.size, 1, none⟩))) rfl rfl (by kernel_rfl) (by kernel_rfl) (by kernel_rfl) (fun _ _ _ h => h) (by rfl) (by (intro _w _hSw; (try dsimp only at _hSw); go_simp)) (by assumption) ?_
      simp only [Act.put, List.setIfInBounds_toArray, List.set_cons_zero, List.set_cons_succ]
      refine takeV 27 (some 108) ((.slice Au pb.2.length cu)) rfl rfl (by kernel_rfl) (by kernel_rfl) (by kernel_rfl) (fun _ _ _ h => h) (by rfl) (by (intro _w hSw; have hx := HP8.out.next hSw HP8.out.lt; have q0 := hx.c1; clear hSw; go_simp)) (by assumption) ?_
      simp only [Act.put, List.setIfInBounds_toArray, List.set_cons_zero, List.set_cons_succ]
      refine takeV 28 (some 109) ((.string ⟨pb.2.toArray⟩)) rfl rfl (by kernel_rfl) (by kernel_rfl) (by kernel_rfl) (fun _ _ _ h => h) (by rfl) (by (intro _w hSw; have q0 := HSB2.out _w hSw; clear hSw; go_simp)) (by assumption) ?_
      simp only [Act.put, List.setIfInBounds_toArray, List.set_cons_zero, List.set_cons_succ]
      refine callV 29 rfl (by kernel_rfl) (by rfl) (fun K hK => ?_)
      go_simp
      refine (HTB.out _ hHeld).mono ?_
      rintro e wg ⟨rfl, hbf⟩
      refine hK.out _ _ (below_more hHeld hbf hHeld.size) (fun hHeld2 => ?_)
      clear hK K hHeld hbf
      have hHeld := hHeld2
      clear hHeld2
      try simp only [Act.put, List.setIfInBounds_toArray, List.set_cons_zero, List.set_cons_succ]
      refine takeV 30 (some 111) ((.bool false)) rfl rfl (by kernel_rfl) (by kernel_rfl) (by kernel_rfl) (fun _ _ _ h => h) (by rfl) (by (intro _w _hSw; (try dsimp only at _hSw); go_simp)) (by assumption) ?_
      simp only [Act.put, List.setIfInBounds_toArray, List.set_cons_zero, List.set_cons_succ]
      refine takeV 31 (some 112) ((.bool false)) rfl rfl (by kernel_rfl) (by kernel_rfl) (by kernel_rfl) (fun _ _ _ h => h) (by rfl) (by (intro _w _hSw; (try dsimp only at _hSw); go_simp)) (by assumption) ?_
      simp only [Act.put, List.setIfInBounds_toArray, List.set_cons_zero, List.set_cons_succ]
      refine takeV 32 (some 113) ((.bool false)) rfl rfl (by kernel_rfl) (by kernel_rfl) (by kernel_rfl) (fun _ _ _ h => h) (by rfl) (by (intro _w _hSw; (try dsimp only at _hSw); go_simp)) (by assumption) ?_
      simp only [Act.put, List.setIfInBounds_toArray, List.set_cons_zero, List.set_cons_succ]
      refine wpAnyH_done (by kernel_rfl) ?_ _
      have HB9 := Lib.hid (HB8.out.trans (hHeld.mono HB8.out.size))
      have HF : Hid (LawEnd w (.returned (.bool true)) wg) := ⟨rfl, HB9.out⟩
      have t1 := slB_string (slB_up HKK8.out hHeld) d
      have t2 := HSA1.out _ hHeld
      have u2 := (HP68.out.next hHeld HP68.out.lt).c0
      have t3 := HSB1.out _ hHeld
      have u3 := (HP8.out.next hHeld HP8.out.lt).c0
      clear hHeld
      go_wp2
      go_ret
      exact HF.out
    · have e2 : bw = false := by rw [hbw2]; exact decide_eq_false gw
      clear hbw2
      subst e2
      have zi : decide (0 < qr.length) = true := decide_eq_true (by omega)
      have zw : decide (0 < qs.length) = false := decide_eq_false (by omega)
      have zi2 : 0 < qr.length := by omega
      have zw2 : ¬ 0 < qs.length := by omega
      clear hn3 hn4
      go_wp2_with fail
      try rw [hw8]
      clear hw8
      obtain ⟨hia, hoa⟩ := HIH.out gi
      obtain ⟨gh, H1, k1, H2, k2, rfl, hgl, hc1, hc2, hs1, hs2⟩ := HOH8.out.pair HQ4.out (i := 0) (p := pa) (by rw [HRE.out, List.getElem?_drop]; simpa using hia)
      have HC1 := Lib.hid hc1
      have HC2 := Lib.hid hc2
      have HGL := Lib.hid hgl
      have HTA := Lib.hid (fun X (hX : Below w8.heap.size w8 X) => toldB_any H1 H2 k1 k2 pa true ⟨pa.1.toArray⟩ ⟨pa.2.toArray⟩ (slB_up hs1 hX) (slB_up hs2 hX))
      rw [toldE_self] at HTA
      have hbl : Op.bytesLess pa.1 key = false := bless_ge hoa
      have HSA1 := Lib.hid (fun X (hX : Below w8.heap.size w8 X) => slB_string (slB_up HKA8.out hX) ca)
      have HSA2 := Lib.hid (fun X (hX : Below w8.heap.size w8 X) => slB_string (slB_up HYA8.out hX) cv)
      clear hia hoa hc1 hc2 hs1 hs2 hgl
      have HS0 := Lib.hid (qb_dn (Below.refl w8.heap.size w8) 1)
      obtain ⟨we, hwe⟩ : ∃ X, w8.drew = X := ⟨_, rfl⟩
      refine wp_region_held_drew (S := fun X => Below w8.heap.size w8 X) (by kernel_rfl) HS0.out (fun hHeld => ?_)
      rw [hwe] at hHeld ⊢
      clear hwe HS0
      refine takeV 0 (some 81) ((.bool true)) rfl rfl (by kernel_rfl) (by kernel_rfl) (by kernel_rfl) (fun _ _ _ h => h) (by rfl) (by (intro _w _hSw; (try dsimp only at _hSw); go_simp)) (by assumption) ?_
      simp only [Act.put, List.setIfInBounds_toArray, List.set_cons_zero, List.set_cons_succ]
      refine takeV 1 (some 82) ((.bool true)) rfl rfl (by kernel_rfl) (by kernel_rfl) (by kernel_rfl) (fun _ _ _ h => h) (by rfl) (by (intro _w _hSw; (try dsimp only at _hSw); go_simp)) (by assumption) ?_
      simp only [Act.put, List.setIfInBounds_toArray, List.set_cons_zero, List.set_cons_succ]
      refine takeV 2 (some 83) ((.slice (some ⟨gh, 0, none⟩) qr.length c4)) rfl rfl (by kernel_rfl) (by kernel_rfl) (by kernel_rfl) (fun _ _ _ h => h) (by rfl) (by (intro _w _hSw; (try dsimp only at _hSw); go_simp)) (by assumption) ?_
      simp only [Act.put, List.setIfInBounds_toArray, List.set_cons_zero, List.set_cons_succ]
      refine takeV 3 (some 84) ((.pointer (some ⟨gh, 0, none⟩))) rfl rfl (by kernel_rfl) (by kernel_rfl) (by kernel_rfl) (fun _ _ _ h => h) (by rfl) (by (intro _w _hSw; (try dsimp only at _hSw); go_simp)) (by assumption) ?_
      simp only [Act.put, List.setIfInBounds_toArray, List.set_cons_zero, List.set_cons_succ]
      refine takeV 4 (some 85) ((.agg #[.slice H1 pa.1.length k1, .slice H2 pa.2.length k2])) rfl rfl (by kernel_rfl) (by kernel_rfl) (by kernel_rfl) (fun _ _ _ h => h) (by rfl) (by (intro _w hSw; have q0 : _w.cell? ⟨gh, 0, none⟩ = _ := (hSw.cell (p := ⟨gh, 0, none⟩) HGL.out).trans HC1.out; have q1 : _w.cell? ⟨gh, 1, none⟩ = _ := (hSw.cell (p := ⟨gh, 1, none⟩) HGL.out).trans HC2.out; clear hSw; go_simp)) (by assumption) ?_
      simp only [Act.put, List.setIfInBounds_toArray, List.set_cons_zero, List.set_cons_succ]
      refine takeV 5 (some 86) ((.pointer (some ⟨w5.heap.size, 0, none⟩))) rfl rfl (by kernel_rfl) (by kernel_rfl) (by kernel_rfl) (fun _ _ _ h => h) (by rfl) (by (intro _w _hSw; (try dsimp only at _hSw); go_simp)) (by assumption) ?_
      simp only [Act.put, List.setIfInBounds_toArray, List.set_cons_zero, List.set_cons_succ]
      refine takeV 6 (some 87) ((.slice Aa pa.1.length ca)) rfl rfl (by kernel_rfl) (by kernel_rfl) (by kernel_rfl) (fun _ _ _ h => h) (by rfl) (by (intro _w hSw; have hx := HP68.out.next hSw HP68.out.lt; have q0 := hx.c0; clear hSw; go_simp)) (by assumption) ?_
      simp only [Act.put, List.setIfInBounds_toArray, List.set_cons_zero, List.set_cons_succ]
      refine takeV 7 (some 88) ((.string ⟨pa.1.toArray⟩)) rfl rfl (by kernel_rfl) (by kernel_rfl) (by kernel_rfl) (fun _ _ _ h => h) (by rfl) (by (intro _w hSw; have q0 := HSA1.out _w hSw; clear hSw; go_simp)) (by assumption) ?_
      simp only [Act.put, List.setIfInBounds_toArray, List.set_cons_zero, List.set_cons_succ]
      refine takeV 8 (some 89) ((.pointer (some ⟨w5.heap.size, 1, none⟩))) rfl rfl (by kernel_rfl) (by kernel_rfl) (by kernel_rfl) (fun _ _ _ h => h) (by rfl) (by (intro _w _hSw; (try dsimp only at _hSw); go_simp)) (by assumption) ?_
      simp only [Act.put, List.setIfInBounds_toArray, List.set_cons_zero, List.set_cons_succ]
      refine takeV 9 (some 90) ((.slice Av pa.2.length cv)) rfl rfl (by kernel_rfl) (by kernel_rfl) (by kernel_rfl) (fun _ _ _ h => h) (by rfl) (by (intro _w hSw; have hx := HP68.out.next hSw HP68.out.lt; have q0 := hx.c1; clear hSw; go_simp)) (by assumption) ?_
      simp only [Act.put, List.setIfInBounds_toArray, List.set_cons_zero, List.set_cons_succ]
      refine takeV 10 (some 91) ((.string ⟨pa.2.toArray⟩)) rfl rfl (by kernel_rfl) (by kernel_rfl) (by kernel_rfl) (fun _ _ _ h => h) (by rfl) (by (intro _w hSw; have q0 := HSA2.out _w hSw; clear hSw; go_simp)) (by assumption) ?_
      simp only [Act.put, List.setIfInBounds_toArray, List.set_cons_zero, List.set_cons_succ]
      refine callV 11 rfl (by kernel_rfl) (by rfl) (fun K hK => ?_)
      go_simp
      refine (HTA.out _ hHeld).mono ?_
      rintro e wf ⟨rfl, hbf⟩
      refine hK.out _ _ (below_more hHeld hbf hHeld.size) (fun hHeld2 => ?_)
      clear hK K hHeld hbf
      have hHeld := hHeld2
      clear hHeld2
      try simp only [Act.put, List.setIfInBounds_toArray, List.set_cons_zero, List.set_cons_succ]
      refine takeV 12 (some 93) ((.bool false)) rfl rfl (by kernel_rfl) (by kernel_rfl) (by kernel_rfl) (fun _ _ _ h => h) (by rfl) (by (intro _w _hSw; (try dsimp only at _hSw); go_simp)) (by assumption) ?_
      simp only [Act.put, List.setIfInBounds_toArray, List.set_cons_zero, List.set_cons_succ]
      refine takeV 13 (some 94) ((.bool false)) rfl rfl (by kernel_rfl) (by kernel_rfl) (by kernel_rfl) (fun _ _ _ h => h) (by rfl) (by (intro _w _hSw; (try dsimp only at _hSw); go_simp)) (by assumption) ?_
      simp only [Act.put, List.setIfInBounds_toArray, List.set_cons_zero, List.set_cons_succ]
      refine takeV 14 (some 95) ((.bool false)) rfl rfl (by kernel_rfl) (by kernel_rfl) (by kernel_rfl) (fun _ _ _ h => h) (by rfl) (by (intro _w _hSw; (try dsimp only at _hSw); go_simp)) (by assumption) ?_
      simp only [Act.put, List.setIfInBounds_toArray, List.set_cons_zero, List.set_cons_succ]
      refine takeV 15 (some 96) ((.bool false)) rfl rfl (by kernel_rfl) (by kernel_rfl) (by kernel_rfl) (fun _ _ _ h => h) (by rfl) (by (intro _w _hSw; (try dsimp only at _hSw); go_simp)) (by assumption) ?_
      simp only [Act.put, List.setIfInBounds_toArray, List.set_cons_zero, List.set_cons_succ]
      refine takeV 16 (some 97) ((.bool false)) rfl rfl (by kernel_rfl) (by kernel_rfl) (by kernel_rfl) (fun _ _ _ h => h) (by rfl) (by (intro _w _hSw; (try dsimp only at _hSw); go_simp)) (by assumption) ?_
      simp only [Act.put, List.setIfInBounds_toArray, List.set_cons_zero, List.set_cons_succ]
      refine skipV 17 (some 98) rfl rfl (by kernel_rfl) (by kernel_rfl) (by kernel_rfl) (fun _ _ _ h => h) (by rfl) (by assumption) ?_
      simp only [Act.put, List.setIfInBounds_toArray, List.set_cons_zero, List.set_cons_succ]
      refine skipV 18 (some 99) rfl rfl (by kernel_rfl) (by kernel_rfl) (by kernel_rfl) (fun _ _ _ h => h) (by rfl) (by assumption) ?_
      simp only [Act.put, List.setIfInBounds_toArray, List.set_cons_zero, List.set_cons_succ]
      refine skipV 19 (some 100) rfl rfl (by kernel_rfl) (by kernel_rfl) (by kernel_rfl) (fun _ _ _ h => h) (by rfl) (by assumption) ?_
      simp only [Act.put, List.setIfInBounds_toArray, List.set_cons_zero, List.set_cons_succ]
      refine skipV 20 (some 101) rfl rfl (by kernel_rfl) (by kernel_rfl) (by kernel_rfl) (fun _ _ _ h => h) (by rfl) (by assumption) ?_
      simp only [Act.put, List.setIfInBounds_toArray, List.set_cons_zero, List.set_cons_succ]
      refine skipV 21 (some 102) rfl rfl (by kernel_rfl) (by kernel_rfl) (by kernel_rfl) (fun _ _ _ h => h) (by rfl) (by assumption) ?_
      simp only [Act.put, List.setIfInBounds_toArray, List.set_cons_zero, List.set_cons_succ]
      refine skipV 22 (some 103) rfl rfl (by kernel_rfl) (by kernel_rfl) (by kernel_rfl) (fun _ _ _ h => h) (by rfl) (by assumption) ?_
      simp only [Act.put, List.setIfInBounds_toArray, List.set_cons_zero, List.set_cons_succ]
      refine skipV 23 (some 104) rfl rfl (by kernel_rfl) (by kernel_rfl) (by kernel_rfl) (fun _ _ _ h => h) (by rfl) (by assumption) ?_
      simp only [Act.put, List.setIfInBounds_toArray, List.set_cons_zero, List.set_cons_succ]
      refine skipV 24 (some 105) rfl rfl (by kernel_rfl) (by kernel_rfl) (by kernel_rfl) (fun _ _ _ h => h) (by rfl) (by assumption) ?_
      simp only [Act.put, List.setIfInBounds_toArray, List.set_cons_zero, List.set_cons_succ]
      refine skipV 25 (some 106) rfl rfl (by kernel_rfl) (by kernel_rfl) (by kernel_rfl) (fun _ _ _ h => h) (by rfl) (by assumption) ?_
      simp only [Act.put, List.setIfInBounds_toArray, List.set_cons_zero, List.set_cons_succ]
      refine skipV 26 (some 107) rfl rfl (by kernel_rfl) (by kernel_rfl) (by kernel_rfl) (fun _ _ _ h => h) (by rfl) (by assumption) ?_
      simp only [Act.put, List.setIfInBounds_toArray, List.set_cons_zero, List.set_cons_succ]
      refine skipV 27 (some 108) rfl rfl (by kernel_rfl) (by kernel_rfl) (by kernel_rfl) (fun _ _ _ h => h) (by rfl) (by assumption) ?_
      simp only [Act.put, List.setIfInBounds_toArray, List.set_cons_zero, List.set_cons_succ]
      refine skipV 28 (some 109) rfl rfl (by kernel_rfl) (by kernel_rfl) (by kernel_rfl) (fun _ _ _ h => h) (by rfl) (by assumption) ?_
      simp only [Act.put, List.setIfInBounds_toArray, List.set_cons_zero, List.set_cons_succ]
      refine skipV 29 (some 110) rfl rfl (by kernel_rfl) (by kernel_rfl) (by kernel_rfl) (fun _ _ _ h => h) (by rfl) (by assumption) ?_
      simp only [Act.put, List.setIfInBounds_toArray, List.set_cons_zero, List.set_cons_succ]
      refine skipV 30 (some 111) rfl rfl (by kernel_rfl) (by kernel_rfl) (by kernel_rfl) (fun _ _ _ h => h) (by rfl) (by assumption) ?_
      simp only [Act.put, List.setIfInBounds_toArray, List.set_cons_zero, List.set_cons_succ]
      refine takeV 31 (some 112) ((.bool false)) rfl rfl (by kernel_rfl) (by kernel_rfl) (by kernel_rfl) (fun _ _ _ h => h) (by rfl) (by (intro _w _hSw; (try dsimp only at _hSw); go_simp)) (by assumption) ?_
      simp only [Act.put, List.setIfInBounds_toArray, List.set_cons_zero, List.set_cons_succ]
      refine takeV 32 (some 113) ((.bool false)) rfl rfl (by kernel_rfl) (by kernel_rfl) (by kernel_rfl) (fun _ _ _ h => h) (by rfl) (by (intro _w _hSw; (try dsimp only at _hSw); go_simp)) (by assumption) ?_
      simp only [Act.put, List.setIfInBounds_toArray, List.set_cons_zero, List.set_cons_succ]
      refine wpAnyH_done (by kernel_rfl) ?_ _
      have HB9 := Lib.hid (HB8.out.trans (hHeld.mono HB8.out.size))
      have HF : Hid (LawEnd w (.returned (.bool true)) wf) := ⟨rfl, HB9.out⟩
      have t1 := slB_string (slB_up HKK8.out hHeld) d
      have t2 := HSA1.out _ hHeld
      have u2 := (HP68.out.next hHeld HP68.out.lt).c0
      clear hHeld
      go_wp2
      go_ret
      exact HF.out
  · have e1 : bi = false := by rw [hbi2]; exact decide_eq_false gi
    clear hbi2
    subst e1
    by_cases gw : 0 < r
    · have e2 : bw = true := by rw [hbw2]; exact decide_eq_true gw
      clear hbw2
      subst e2
      have zi : decide (0 < qr.length) = false := decide_eq_false (by omega)
      have zw : decide (0 < qs.length) = true := decide_eq_true (by omega)
      have zi2 : ¬ 0 < qr.length := by omega
      have zw2 : 0 < qs.length := by omega
      clear hn3 hn4
      go_wp2_with fail
      try rw [hw8]
      clear hw8
      obtain ⟨hib, hob⟩ := HIL.out gw
      obtain ⟨rq, rfl⟩ : ∃ rq, r = rq + 1 := ⟨r - 1, by omega⟩
      obtain ⟨gl, L1, j1, L2, j2, rfl, hgl, hc1, hc2, hs1, hs2⟩ := HOL8.out.pair HQ3.out (i := rq) (p := pb) (by rw [HRE.out, List.getElem?_take, if_pos (by omega)]; simpa using hib)
      have HD1 := Lib.hid hc1
      have HD2 := Lib.hid hc2
      have HDL := Lib.hid hgl
      have HTB := Lib.hid (fun X (hX : Below w8.heap.size w8 X) => toldB_any L1 L2 j1 j2 pb true ⟨pb.1.toArray⟩ ⟨pb.2.toArray⟩ (slB_up hs1 hX) (slB_up hs2 hX))
      rw [toldE_self] at HTB
      have hbm : Op.bytesLess pb.1 key = true := bless_lt hob
      have HSB1 := Lib.hid (fun X (hX : Below w8.heap.size w8 X) => slB_string (slB_up HKB8.out hX) cb)
      have HSB2 := Lib.hid (fun X (hX : Below w8.heap.size w8 X) => slB_string (slB_up HYB8.out hX) cu)
      have hq1 : ((qs.length : Int) - 1) = (rq : Int) := by have := HN3b.out; omega
      have hq2 : (rq : Int) < (qs.length : Int) := by have := HN3b.out; omega
      have hq3 : 0 ≤ (rq : Int) := by omega
      have hq4 : IntKind.i64.wrap (rq : Int) = (rq : Int) := by have h1 := HRL.out; rw [HRE.out] at h1; have h2 := HLN.out; exact IntWalk.i64_in _ (by omega)
      clear hib hob hc1 hc2 hs1 hs2 hgl
      have HS0 := Lib.hid (qb_dn (Below.refl w8.heap.size w8) 1)
      obtain ⟨we, hwe⟩ : ∃ X, w8.drew = X := ⟨_, rfl⟩
      refine wp_region_held_drew (S := fun X => Below w8.heap.size w8 X) (by kernel_rfl) HS0.out (fun hHeld => ?_)
      rw [hwe] at hHeld ⊢
      clear hwe HS0
      refine takeV 0 (some 81) ((.bool false)) rfl rfl (by kernel_rfl) (by kernel_rfl) (by kernel_rfl) (fun _ _ _ h => h) (by rfl) (by (intro _w _hSw; (try dsimp only at _hSw); go_simp)) (by assumption) ?_
      simp only [Act.put, List.setIfInBounds_toArray, List.set_cons_zero, List.set_cons_succ]
      refine takeV 1 (some 82) ((.bool false)) rfl rfl (by kernel_rfl) (by kernel_rfl) (by kernel_rfl) (fun _ _ _ h => h) (by rfl) (by (intro _w _hSw; (try dsimp only at _hSw); go_simp)) (by assumption) ?_
      simp only [Act.put, List.setIfInBounds_toArray, List.set_cons_zero, List.set_cons_succ]
      refine skipV 2 (some 83) rfl rfl (by kernel_rfl) (by kernel_rfl) (by kernel_rfl) (fun _ _ _ h => h) (by rfl) (by assumption) ?_
      simp only [Act.put, List.setIfInBounds_toArray, List.set_cons_zero, List.set_cons_succ]
      refine skipV 3 (some 84) rfl rfl (by kernel_rfl) (by kernel_rfl) (by kernel_rfl) (fun _ _ _ h => h) (by rfl) (by assumption) ?_
      simp only [Act.put, List.setIfInBounds_toArray, List.set_cons_zero, List.set_cons_succ]
      refine skipV 4 (some 85) rfl rfl (by kernel_rfl) (by kernel_rfl) (by kernel_rfl) (fun _ _ _ h => h) (by rfl) (by assumption) ?_
      simp only [Act.put, List.setIfInBounds_toArray, List.set_cons_zero, List.set_cons_succ]
      refine skipV 5 (some 86) rfl rfl (by kernel_rfl) (by kernel_rfl) (by kernel_rfl) (fun _ _ _ h => h) (by rfl) (by assumption) ?_
      simp only [Act.put, List.setIfInBounds_toArray, List.set_cons_zero, List.set_cons_succ]
      refine skipV 6 (some 87) rfl rfl (by kernel_rfl) (by kernel_rfl) (by kernel_rfl) (fun _ _ _ h => h) (by rfl) (by assumption) ?_
      simp only [Act.put, List.setIfInBounds_toArray, List.set_cons_zero, List.set_cons_succ]
      refine skipV 7 (some 88) rfl rfl (by kernel_rfl) (by kernel_rfl) (by kernel_rfl) (fun _ _ _ h => h) (by rfl) (by assumption) ?_
      simp only [Act.put, List.setIfInBounds_toArray, List.set_cons_zero, List.set_cons_succ]
      refine skipV 8 (some 89) rfl rfl (by kernel_rfl) (by kernel_rfl) (by kernel_rfl) (fun _ _ _ h => h) (by rfl) (by assumption) ?_
      simp only [Act.put, List.setIfInBounds_toArray, List.set_cons_zero, List.set_cons_succ]
      refine skipV 9 (some 90) rfl rfl (by kernel_rfl) (by kernel_rfl) (by kernel_rfl) (fun _ _ _ h => h) (by rfl) (by assumption) ?_
      simp only [Act.put, List.setIfInBounds_toArray, List.set_cons_zero, List.set_cons_succ]
      refine skipV 10 (some 91) rfl rfl (by kernel_rfl) (by kernel_rfl) (by kernel_rfl) (fun _ _ _ h => h) (by rfl) (by assumption) ?_
      simp only [Act.put, List.setIfInBounds_toArray, List.set_cons_zero, List.set_cons_succ]
      refine skipV 11 (some 92) rfl rfl (by kernel_rfl) (by kernel_rfl) (by kernel_rfl) (fun _ _ _ h => h) (by rfl) (by assumption) ?_
      simp only [Act.put, List.setIfInBounds_toArray, List.set_cons_zero, List.set_cons_succ]
      refine skipV 12 (some 93) rfl rfl (by kernel_rfl) (by kernel_rfl) (by kernel_rfl) (fun _ _ _ h => h) (by rfl) (by assumption) ?_
      simp only [Act.put, List.setIfInBounds_toArray, List.set_cons_zero, List.set_cons_succ]
      refine takeV 13 (some 94) ((.bool false)) rfl rfl (by kernel_rfl) (by kernel_rfl) (by kernel_rfl) (fun _ _ _ h => h) (by rfl) (by (intro _w _hSw; (try dsimp only at _hSw); go_simp)) (by assumption) ?_
      simp only [Act.put, List.setIfInBounds_toArray, List.set_cons_zero, List.set_cons_succ]
      refine takeV 14 (some 95) ((.bool false)) rfl rfl (by kernel_rfl) (by kernel_rfl) (by kernel_rfl) (fun _ _ _ h => h) (by rfl) (by (intro _w _hSw; (try dsimp only at _hSw); go_simp)) (by assumption) ?_
      simp only [Act.put, List.setIfInBounds_toArray, List.set_cons_zero, List.set_cons_succ]
      refine takeV 15 (some 96) ((.bool true)) rfl rfl (by kernel_rfl) (by kernel_rfl) (by kernel_rfl) (fun _ _ _ h => h) (by rfl) (by (intro _w _hSw; (try dsimp only at _hSw); go_simp)) (by assumption) ?_
      simp only [Act.put, List.setIfInBounds_toArray, List.set_cons_zero, List.set_cons_succ]
      refine takeV 16 (some 97) ((.bool true)) rfl rfl (by kernel_rfl) (by kernel_rfl) (by kernel_rfl) (fun _ _ _ h => h) (by rfl) (by (intro _w _hSw; (try dsimp only at _hSw); go_simp)) (by assumption) ?_
      simp only [Act.put, List.setIfInBounds_toArray, List.set_cons_zero, List.set_cons_succ]
      refine takeV 17 (some 98) ((.slice (some ⟨gl, 0, none⟩) qs.length c3)) rfl rfl (by kernel_rfl) (by kernel_rfl) (by kernel_rfl) (fun _ _ _ h => h) (by rfl) (by (intro _w _hSw; (try dsimp only at _hSw); go_simp)) (by assumption) ?_
      simp only [Act.put, List.setIfInBounds_toArray, List.set_cons_zero, List.set_cons_succ]
      refine takeV 18 (some 99) ((.slice (some ⟨gl, 0, none⟩) qs.length c3)) rfl rfl (by kernel_rfl) (by kernel_rfl) (by kernel_rfl) (fun _ _ _ h => h) (by rfl) (by (intro _w _hSw; (try dsimp only at _hSw); go_simp)) (by assumption) ?_
      simp only [Act.put, List.setIfInBounds_toArray, List.set_cons_zero, List.set_cons_succ]
      refine takeV 19 (some 100) ((.int .i64 qs.length)) rfl rfl (by kernel_rfl) (by kernel_rfl) (by kernel_rfl) (fun _ _ _ h => h) (by rfl) (by (intro _w _hSw; (try dsimp only at _hSw); go_simp)) (by assumption) ?_
      simp only [Act.put, List.setIfInBounds_toArray, List.set_cons_zero, List.set_cons_succ]
      refine takeV 20 (some 101) ((.int .i64 rq)) rfl rfl (by kernel_rfl) (by kernel_rfl) (by kernel_rfl) (fun _ _ _ h => h) (by rfl) (by (intro _w _hSw; (try dsimp only at _hSw); go_simp)) (by assumption) ?_
      simp only [Act.put, List.setIfInBounds_toArray, List.set_cons_zero, List.set_cons_succ]
      refine takeV 21 (some 102) ((.pointer (some ⟨gl, rq * 2, none⟩))) rfl rfl (by kernel_rfl) (by kernel_rfl) (by kernel_rfl) (fun _ _ _ h => h) (by rfl) (by (intro _w _hSw; (try dsimp only at _hSw); go_simp)) (by assumption) ?_
      simp only [Act.put, List.setIfInBounds_toArray, List.set_cons_zero, List.set_cons_succ]
      refine takeV 22 (some 103) ((.agg #[.slice L1 pb.1.length j1, .slice L2 pb.2.length j2])) rfl rfl (by kernel_rfl) (by kernel_rfl) (by kernel_rfl) (fun _ _ _ h => h) (by rfl) (by (intro _w hSw; have q0 := (hSw.cell (p := ⟨gl, rq * 2, none⟩) HDL.out).trans HD1.out; have q1 := (hSw.cell (p := ⟨gl, rq * 2 + 1, none⟩) HDL.out).trans HD2.out; clear hSw; go_simp)) (by assumption) ?_
      simp only [Act.put, List.setIfInBounds_toArray, List.set_cons_zero, List.set_cons_succ]
      refine takeV 23 (some 104) ((.pointer (some ⟨w7.heap.size, 0, none⟩))) rfl rfl (by kernel_rfl) (by kernel_rfl) (by kernel_rfl) (fun _ _ _ h => h) (by rfl) (by (intro _w _hSw; (try dsimp only at _hSw); go_simp)) (by assumption) ?_
      simp only [Act.put, List.setIfInBounds_toArray, List.set_cons_zero, List.set_cons_succ]
      refine takeV 24 (some 105) ((.slice Ab pb.1.length cb)) rfl rfl (by kernel_rfl) (by kernel_rfl) (by kernel_rfl) (fun _ _ _ h => h) (by rfl) (by (intro _w hSw; have hx := HP8.out.next hSw HP8.out.lt; have q0 := hx.c0; clear hSw; go_simp)) (by assumption) ?_
      simp only [Act.put, List.setIfInBounds_toArray, List.set_cons_zero, List.set_cons_succ]
      refine takeV 25 (some 106) ((.string ⟨pb.1.toArray⟩)) rfl rfl (by kernel_rfl) (by kernel_rfl) (by kernel_rfl) (fun _ _ _ h => h) (by rfl) (by (intro _w hSw; have q0 := HSB1.out _w hSw; clear hSw; go_simp)) (by assumption) ?_
      simp only [Act.put, List.setIfInBounds_toArray, List.set_cons_zero, List.set_cons_succ]
      refine takeV 26 (some 107) ((.pointer (some ⟨w7.heap.size, 1, none⟩))) rfl rfl (by kernel_rfl) (by kernel_rfl) (by kernel_rfl) (fun _ _ _ h => h) (by rfl) (by (intro _w _hSw; (try dsimp only at _hSw); go_simp)) (by assumption) ?_
      simp only [Act.put, List.setIfInBounds_toArray, List.set_cons_zero, List.set_cons_succ]
      refine takeV 27 (some 108) ((.slice Au pb.2.length cu)) rfl rfl (by kernel_rfl) (by kernel_rfl) (by kernel_rfl) (fun _ _ _ h => h) (by rfl) (by (intro _w hSw; have hx := HP8.out.next hSw HP8.out.lt; have q0 := hx.c1; clear hSw; go_simp)) (by assumption) ?_
      simp only [Act.put, List.setIfInBounds_toArray, List.set_cons_zero, List.set_cons_succ]
      refine takeV 28 (some 109) ((.string ⟨pb.2.toArray⟩)) rfl rfl (by kernel_rfl) (by kernel_rfl) (by kernel_rfl) (fun _ _ _ h => h) (by rfl) (by (intro _w hSw; have q0 := HSB2.out _w hSw; clear hSw; go_simp)) (by assumption) ?_
      simp only [Act.put, List.setIfInBounds_toArray, List.set_cons_zero, List.set_cons_succ]
      refine callV 29 rfl (by kernel_rfl) (by rfl) (fun K hK => ?_)
      go_simp
      refine (HTB.out _ hHeld).mono ?_
      rintro e wg ⟨rfl, hbf⟩
      refine hK.out _ _ (below_more hHeld hbf hHeld.size) (fun hHeld2 => ?_)
      clear hK K hHeld hbf
      have hHeld := hHeld2
      clear hHeld2
      try simp only [Act.put, List.setIfInBounds_toArray, List.set_cons_zero, List.set_cons_succ]
      refine takeV 30 (some 111) ((.bool false)) rfl rfl (by kernel_rfl) (by kernel_rfl) (by kernel_rfl) (fun _ _ _ h => h) (by rfl) (by (intro _w _hSw; (try dsimp only at _hSw); go_simp)) (by assumption) ?_
      simp only [Act.put, List.setIfInBounds_toArray, List.set_cons_zero, List.set_cons_succ]
      refine takeV 31 (some 112) ((.bool false)) rfl rfl (by kernel_rfl) (by kernel_rfl) (by kernel_rfl) (fun _ _ _ h => h) (by rfl) (by (intro _w _hSw; (try dsimp only at _hSw); go_simp)) (by assumption) ?_
      simp only [Act.put, List.setIfInBounds_toArray, List.set_cons_zero, List.set_cons_succ]
      refine takeV 32 (some 113) ((.bool false)) rfl rfl (by kernel_rfl) (by kernel_rfl) (by kernel_rfl) (fun _ _ _ h => h) (by rfl) (by (intro _w _hSw; (try dsimp only at _hSw); go_simp)) (by assumption) ?_
      simp only [Act.put, List.setIfInBounds_toArray, List.set_cons_zero, List.set_cons_succ]
      refine wpAnyH_done (by kernel_rfl) ?_ _
      have HB9 := Lib.hid (HB8.out.trans (hHeld.mono HB8.out.size))
      have HF : Hid (LawEnd w (.returned (.bool true)) wg) := ⟨rfl, HB9.out⟩
      have t1 := slB_string (slB_up HKK8.out hHeld) d
      have t3 := HSB1.out _ hHeld
      have u3 := (HP8.out.next hHeld HP8.out.lt).c0
      clear hHeld
      go_wp2
      go_ret
      exact HF.out
    · have e2 : bw = false := by rw [hbw2]; exact decide_eq_false gw
      clear hbw2
      subst e2
      have zi : decide (0 < qr.length) = false := decide_eq_false (by omega)
      have zw : decide (0 < qs.length) = false := decide_eq_false (by omega)
      have zi2 : ¬ 0 < qr.length := by omega
      have zw2 : ¬ 0 < qs.length := by omega
      clear hn3 hn4
      go_wp2_with fail
      try rw [hw8]
      clear hw8
      have HS0 := Lib.hid (qb_dn (Below.refl w8.heap.size w8) 1)
      obtain ⟨we, hwe⟩ : ∃ X, w8.drew = X := ⟨_, rfl⟩
      refine wp_region_held_drew (S := fun X => Below w8.heap.size w8 X) (by kernel_rfl) HS0.out (fun hHeld => ?_)
      rw [hwe] at hHeld ⊢
      clear hwe HS0
      refine takeV 0 (some 81) ((.bool false)) rfl rfl (by kernel_rfl) (by kernel_rfl) (by kernel_rfl) (fun _ _ _ h => h) (by rfl) (by (intro _w _hSw; (try dsimp only at _hSw); go_simp)) (by assumption) ?_
      simp only [Act.put, List.setIfInBounds_toArray, List.set_cons_zero, List.set_cons_succ]
      refine takeV 1 (some 82) ((.bool false)) rfl rfl (by kernel_rfl) (by kernel_rfl) (by kernel_rfl) (fun _ _ _ h => h) (by rfl) (by (intro _w _hSw; (try dsimp only at _hSw); go_simp)) (by assumption) ?_
      simp only [Act.put, List.setIfInBounds_toArray, List.set_cons_zero, List.set_cons_succ]
      refine skipV 2 (some 83) rfl rfl (by kernel_rfl) (by kernel_rfl) (by kernel_rfl) (fun _ _ _ h => h) (by rfl) (by assumption) ?_
      simp only [Act.put, List.setIfInBounds_toArray, List.set_cons_zero, List.set_cons_succ]
      refine skipV 3 (some 84) rfl rfl (by kernel_rfl) (by kernel_rfl) (by kernel_rfl) (fun _ _ _ h => h) (by rfl) (by assumption) ?_
      simp only [Act.put, List.setIfInBounds_toArray, List.set_cons_zero, List.set_cons_succ]
      refine skipV 4 (some 85) rfl rfl (by kernel_rfl) (by kernel_rfl) (by kernel_rfl) (fun _ _ _ h => h) (by rfl) (by assumption) ?_
      simp only [Act.put, List.setIfInBounds_toArray, List.set_cons_zero, List.set_cons_succ]
      refine skipV 5 (some 86) rfl rfl (by kernel_rfl) (by kernel_rfl) (by kernel_rfl) (fun _ _ _ h => h) (by rfl) (by assumption) ?_
      simp only [Act.put, List.setIfInBounds_toArray, List.set_cons_zero, List.set_cons_succ]
      refine skipV 6 (some 87) rfl rfl (by kernel_rfl) (by kernel_rfl) (by kernel_rfl) (fun _ _ _ h => h) (by rfl) (by assumption) ?_
      simp only [Act.put, List.setIfInBounds_toArray, List.set_cons_zero, List.set_cons_succ]
      refine skipV 7 (some 88) rfl rfl (by kernel_rfl) (by kernel_rfl) (by kernel_rfl) (fun _ _ _ h => h) (by rfl) (by assumption) ?_
      simp only [Act.put, List.setIfInBounds_toArray, List.set_cons_zero, List.set_cons_succ]
      refine skipV 8 (some 89) rfl rfl (by kernel_rfl) (by kernel_rfl) (by kernel_rfl) (fun _ _ _ h => h) (by rfl) (by assumption) ?_
      simp only [Act.put, List.setIfInBounds_toArray, List.set_cons_zero, List.set_cons_succ]
      refine skipV 9 (some 90) rfl rfl (by kernel_rfl) (by kernel_rfl) (by kernel_rfl) (fun _ _ _ h => h) (by rfl) (by assumption) ?_
      simp only [Act.put, List.setIfInBounds_toArray, List.set_cons_zero, List.set_cons_succ]
      refine skipV 10 (some 91) rfl rfl (by kernel_rfl) (by kernel_rfl) (by kernel_rfl) (fun _ _ _ h => h) (by rfl) (by assumption) ?_
      simp only [Act.put, List.setIfInBounds_toArray, List.set_cons_zero, List.set_cons_succ]
      refine skipV 11 (some 92) rfl rfl (by kernel_rfl) (by kernel_rfl) (by kernel_rfl) (fun _ _ _ h => h) (by rfl) (by assumption) ?_
      simp only [Act.put, List.setIfInBounds_toArray, List.set_cons_zero, List.set_cons_succ]
      refine skipV 12 (some 93) rfl rfl (by kernel_rfl) (by kernel_rfl) (by kernel_rfl) (fun _ _ _ h => h) (by rfl) (by assumption) ?_
      simp only [Act.put, List.setIfInBounds_toArray, List.set_cons_zero, List.set_cons_succ]
      refine takeV 13 (some 94) ((.bool false)) rfl rfl (by kernel_rfl) (by kernel_rfl) (by kernel_rfl) (fun _ _ _ h => h) (by rfl) (by (intro _w _hSw; (try dsimp only at _hSw); go_simp)) (by assumption) ?_
      simp only [Act.put, List.setIfInBounds_toArray, List.set_cons_zero, List.set_cons_succ]
      refine takeV 14 (some 95) ((.bool false)) rfl rfl (by kernel_rfl) (by kernel_rfl) (by kernel_rfl) (fun _ _ _ h => h) (by rfl) (by (intro _w _hSw; (try dsimp only at _hSw); go_simp)) (by assumption) ?_
      simp only [Act.put, List.setIfInBounds_toArray, List.set_cons_zero, List.set_cons_succ]
      refine takeV 15 (some 96) ((.bool false)) rfl rfl (by kernel_rfl) (by kernel_rfl) (by kernel_rfl) (fun _ _ _ h => h) (by rfl) (by (intro _w _hSw; (try dsimp only at _hSw); go_simp)) (by assumption) ?_
      simp only [Act.put, List.setIfInBounds_toArray, List.set_cons_zero, List.set_cons_succ]
      refine takeV 16 (some 97) ((.bool false)) rfl rfl (by kernel_rfl) (by kernel_rfl) (by kernel_rfl) (fun _ _ _ h => h) (by rfl) (by (intro _w _hSw; (try dsimp only at _hSw); go_simp)) (by assumption) ?_
      simp only [Act.put, List.setIfInBounds_toArray, List.set_cons_zero, List.set_cons_succ]
      refine skipV 17 (some 98) rfl rfl (by kernel_rfl) (by kernel_rfl) (by kernel_rfl) (fun _ _ _ h => h) (by rfl) (by assumption) ?_
      simp only [Act.put, List.setIfInBounds_toArray, List.set_cons_zero, List.set_cons_succ]
      refine skipV 18 (some 99) rfl rfl (by kernel_rfl) (by kernel_rfl) (by kernel_rfl) (fun _ _ _ h => h) (by rfl) (by assumption) ?_
      simp only [Act.put, List.setIfInBounds_toArray, List.set_cons_zero, List.set_cons_succ]
      refine skipV 19 (some 100) rfl rfl (by kernel_rfl) (by kernel_rfl) (by kernel_rfl) (fun _ _ _ h => h) (by rfl) (by assumption) ?_
      simp only [Act.put, List.setIfInBounds_toArray, List.set_cons_zero, List.set_cons_succ]
      refine skipV 20 (some 101) rfl rfl (by kernel_rfl) (by kernel_rfl) (by kernel_rfl) (fun _ _ _ h => h) (by rfl) (by assumption) ?_
      simp only [Act.put, List.setIfInBounds_toArray, List.set_cons_zero, List.set_cons_succ]
      refine skipV 21 (some 102) rfl rfl (by kernel_rfl) (by kernel_rfl) (by kernel_rfl) (fun _ _ _ h => h) (by rfl) (by assumption) ?_
      simp only [Act.put, List.setIfInBounds_toArray, List.set_cons_zero, List.set_cons_succ]
      refine skipV 22 (some 103) rfl rfl (by kernel_rfl) (by kernel_rfl) (by kernel_rfl) (fun _ _ _ h => h) (by rfl) (by assumption) ?_
      simp only [Act.put, List.setIfInBounds_toArray, List.set_cons_zero, List.set_cons_succ]
      refine skipV 23 (some 104) rfl rfl (by kernel_rfl) (by kernel_rfl) (by kernel_rfl) (fun _ _ _ h => h) (by rfl) (by assumption) ?_
      simp only [Act.put, List.setIfInBounds_toArray, List.set_cons_zero, List.set_cons_succ]
      refine skipV 24 (some 105) rfl rfl (by kernel_rfl) (by kernel_rfl) (by kernel_rfl) (fun _ _ _ h => h) (by rfl) (by assumption) ?_
      simp only [Act.put, List.setIfInBounds_toArray, List.set_cons_zero, List.set_cons_succ]
      refine skipV 25 (some 106) rfl rfl (by kernel_rfl) (by kernel_rfl) (by kernel_rfl) (fun _ _ _ h => h) (by rfl) (by assumption) ?_
      simp only [Act.put, List.setIfInBounds_toArray, List.set_cons_zero, List.set_cons_succ]
      refine skipV 26 (some 107) rfl rfl (by kernel_rfl) (by kernel_rfl) (by kernel_rfl) (fun _ _ _ h => h) (by rfl) (by assumption) ?_
      simp only [Act.put, List.setIfInBounds_toArray, List.set_cons_zero, List.set_cons_succ]
      refine skipV 27 (some 108) rfl rfl (by kernel_rfl) (by kernel_rfl) (by kernel_rfl) (fun _ _ _ h => h) (by rfl) (by assumption) ?_
      simp only [Act.put, List.setIfInBounds_toArray, List.set_cons_zero, List.set_cons_succ]
      refine skipV 28 (some 109) rfl rfl (by kernel_rfl) (by kernel_rfl) (by kernel_rfl) (fun _ _ _ h => h) (by rfl) (by assumption) ?_
      simp only [Act.put, List.setIfInBounds_toArray, List.set_cons_zero, List.set_cons_succ]
      refine skipV 29 (some 110) rfl rfl (by kernel_rfl) (by kernel_rfl) (by kernel_rfl) (fun _ _ _ h => h) (by rfl) (by assumption) ?_
      simp only [Act.put, List.setIfInBounds_toArray, List.set_cons_zero, List.set_cons_succ]
      refine skipV 30 (some 111) rfl rfl (by kernel_rfl) (by kernel_rfl) (by kernel_rfl) (fun _ _ _ h => h) (by rfl) (by assumption) ?_
      simp only [Act.put, List.setIfInBounds_toArray, List.set_cons_zero, List.set_cons_succ]
      refine takeV 31 (some 112) ((.bool false)) rfl rfl (by kernel_rfl) (by kernel_rfl) (by kernel_rfl) (fun _ _ _ h => h) (by rfl) (by (intro _w _hSw; (try dsimp only at _hSw); go_simp)) (by assumption) ?_
      simp only [Act.put, List.setIfInBounds_toArray, List.set_cons_zero, List.set_cons_succ]
      refine takeV 32 (some 113) ((.bool false)) rfl rfl (by kernel_rfl) (by kernel_rfl) (by kernel_rfl) (fun _ _ _ h => h) (by rfl) (by (intro _w _hSw; (try dsimp only at _hSw); go_simp)) (by assumption) ?_
      simp only [Act.put, List.setIfInBounds_toArray, List.set_cons_zero, List.set_cons_succ]
      refine wpAnyH_done (by kernel_rfl) ?_ _
      have HB9 := Lib.hid (HB8.out.trans (hHeld.mono HB8.out.size))
      have HF : Hid (LawEnd w (.returned (.bool true)) we) := ⟨rfl, HB9.out⟩
      have t1 := slB_string (slB_up HKK8.out hHeld) d
      clear hHeld
      go_wp2
      go_ret
      exact HF.out
end Go.Proofs.Ythldmdcjfeekeaa
