/-
  THE LAW TreeStays.
-/
import Derived.Test.YthldmdcjfeekeaaQStayP
import Derived.Test.YthldmdcjfeekeaaQOrdL
namespace Go.Proofs.Ythldmdcjfeekeaa
open Go.RowKit

set_option maxRecDepth 100000 in
set_option maxHeartbeats 8000000 in
theorem stays_law (A : Option Addr) (c : Nat) (l : List OpP) (B : Option Addr) (d : Nat) (key : By) (B' : Option Addr) (d' : Nat) (val : By) (w : World) (hs : SlO w A l) (hl : l.length ≤ 9223372036854775807) (hk : SlB w w.heap.size B key) (hv : SlB w w.heap.size B' val) :
    Calls Try.prog 6 #[.slice A l.length c, .slice B key.length d, .slice B' val.length d'] w (OrdEnd w) := by
  have HS := Lib.hid hs
  have HL9 := Lib.hid hl
  have HK := Lib.hid hk
  have HV := Lib.hid hv
  clear hs hl hk hv
  go_enter Try.func6, Try.ntmps6
  go_wp2_with fail
  refine (alive_any w).mono ?_
  rintro e w1 ⟨rfl, hb1⟩
  have HB1 := Lib.hid hb1
  have HG := Lib.hid (great_any A c l w1 (HS.out.next hb1) HL9.out)
  clear hb1
  go_wp2_with fail
  refine HG.out.mono ?_
  rintro e w' ⟨gr, rfl, rfl, hgr⟩
  have HF : Hid (OrdEnd w (.returned (.bool true)) w1) := ⟨rfl, HB1.out⟩
  cases gr with
  | true =>
    clear hgr
    go_wp2
    go_ret
    exact HF.out
  | false =>
  have HGR := Lib.hid (hgr rfl)
  clear hgr HG
  by_cases g1 : (4096 : Int) < (key.length : Int)
  · have g1' : decide ((4096 : Int) < (key.length : Int)) = true := decide_eq_true g1
    go_wp2
    go_ret
    exact HF.out
  have g1' : decide ((4096 : Int) < (key.length : Int)) = false := decide_eq_false g1
  by_cases g2 : (65536 : Int) < (val.length : Int)
  · have g2' : decide ((65536 : Int) < (val.length : Int)) = true := decide_eq_true g2
    go_wp2
    go_ret
    exact HF.out
  have g2' : decide ((65536 : Int) < (val.length : Int)) = false := decide_eq_false g2
  have HKB : Hid (key.length ≤ 4096) := by show _ ≤ _; omega
  have HVB : Hid (val.length ≤ 65536) := by show _ ≤ _; omega
  have HGW := Lib.hid (grown_any A c l w1 (HS.out.next HB1.out) HGR.out.1)
  go_wp2_with fail
  clear g1 g1' g2 g2' HF
  refine HGW.out.mono ?_
  rintro e w2 ⟨u, L, rfl, ht2, hL, _, hb2⟩
  have hL1 : L.length ≤ 100 := Nat.le_trans hL HGR.out.1
  have HB2 := Lib.hid (HB1.out.trans (hb2.mono HB1.out.size))
  have HR := Lib.hid ht2.rise
  have HLN := Lib.hid hL1
  have HR1 := Lib.hid (rangeM_any none none 0 0 [] [] 1000 w2 ht2 (fun h => absurd rfl h) (fun h => absurd rfl h))
  have HT2 := Lib.hid ht2
  rw [fromL_nil, rgL_all (by omega)] at HR1
  clear ht2 hL hL1 hb2 HGW
  go_wp2_with fail
  refine HR1.out.mono ?_
  rintro e w3 ⟨v3, qs, rfl, ho3, hq3, hb3⟩
  have hn := ownQ_len ho3 hq3
  obtain ⟨A3, c3, rfl⟩ := ho3.form
  rw [hn] at ho3 ⊢
  have HO3 := Lib.hid ho3
  have HQ3 := Lib.hid hq3
  have HB3 := Lib.hid (HB2.out.trans (hb3.mono HB2.out.size))
  have HT3 := Lib.hid (HT2.out.next hb3)
  have HK3 := Lib.hid (slB_up HK.out HB3.out)
  have HV3 := Lib.hid (slB_up HV.out HB3.out)
  have H33 := Lib.hid (Below.refl w3.heap.size w3)
  obtain ⟨n, hnn⟩ : ∃ n, L.length = n := ⟨_, rfl⟩
  have HNN := Lib.hid hnn
  rw [hnn] at HO3 ⊢
  have hn100 : n ≤ 100 := by rw [← hnn]; exact HLN.out
  obtain ⟨L2, hL2⟩ : ∃ L2, putL L (key, val) = L2 := ⟨_, rfl⟩
  have HG1 : Hid (getL L2 key = some val) := by show _ = _; rw [← hL2]; exact get_put HR.out key val
  have HG2 : Hid (cutL L2 key = cutL L key) := by show _ = _; rw [← hL2]; exact cut_put HR.out key val
  have HG3 : Hid (∀ p ∈ L, p.1 ≠ key → getL L2 p.1 = some p.2) := fun p hp hne => by rw [← hL2]; exact get_put_ne HR.out hp hne
  have HG4 : Hid (getL L key = none → L2.length = n + 1) := fun h => by rw [← hL2, put_none_len HR.out h, HNN.out]
  have HG5 : Hid (∀ y, getL L key = some y → L2.length = n) := fun y h => by rw [← hL2, put_some_len HR.out h, HNN.out]
  have HL2 := Lib.hid hL2
  clear ho3 hq3 hb3 HR1 hn hnn hL2 HT2
  obtain ⟨o, ho⟩ : ∃ o, (getL L key).getD [] = o := ⟨_, rfl⟩
  have HO := Lib.hid ho
  clear ho
  rcases hgl0 : getL L key with _ | y0
  · have e0 : (getL L key).isSome = false := by rw [hgl0]; rfl
    have HE0 := Lib.hid e0
    have HGL0 := Lib.hid hgl0
    clear e0 hgl0
    have HC3 := Lib.hid (getM_any B d key w3 HT3.out HK3.out)
    rw [HO.out, HE0.out] at HC3
    go_wp2_with fail
    refine HC3.out.mono ?_
    rintro e w4 ⟨A4, c4, rfl, ho4, hb4⟩
    have HA4 := Lib.hid (SlB.of_own ho4).2
    have H34 := Lib.hid (H33.out.trans (hb4.mono H33.out.size))
    have HT4 := Lib.hid (HT3.out.next hb4)
    have HK4 := Lib.hid (slB_up HK3.out hb4)
    have HV4 := Lib.hid (slB_up HV3.out hb4)
    have HC4 := Lib.hid (putM_any B B' d d' key val w4 HT4.out HK4.out HV4.out HKB.out HVB.out (by have := HLN.out; omega))
    rw [HL2.out] at HC4
    clear ho4 hb4 HC3
    go_wp2_with fail
    refine HC4.out.mono ?_
    rintro e w5 ⟨v5, rfl, ⟨b5, rfl⟩, ht5, hb5⟩
    have HTU5 := Lib.hid ht5
    have H35 := Lib.hid (H34.out.trans (hb5.mono H34.out.size))
    have HT5 := Lib.hid (HT4.out.next hb5)
    have HK5 := Lib.hid (slB_up HK4.out hb5)
    have HV5 := Lib.hid (slB_up HV4.out hb5)
    have HA5 := Lib.hid (slB_up HA4.out hb5)
    have HC5 := Lib.hid (getM_any B d key w5 HTU5.out HK5.out)
    rw [HG1.out, Option.getD_some, Option.isSome_some] at HC5
    clear ht5 hb5 HC4
    go_wp2_with fail
    refine HC5.out.mono ?_
    rintro e w6 ⟨A6, c6, rfl, ho6, hb6⟩
    have HW6 := Lib.hid (SlB.of_own ho6).2
    have H36 := Lib.hid (H35.out.trans (hb6.mono H35.out.size))
    have HT6 := Lib.hid (HT5.out.next hb6)
    have HTU6 := Lib.hid (HTU5.out.next hb6)
    have HK6 := Lib.hid (slB_up HK5.out hb6)
    have HV6 := Lib.hid (slB_up HV5.out hb6)
    have HA6 := Lib.hid (slB_up HA5.out hb6)
    have HC6 := Lib.hid (cutM_any B d key w6 HTU6.out HK6.out)
    rw [HG2.out] at HC6
    clear ho6 hb6 HC5
    go_wp2_with fail
    refine HC6.out.mono ?_
    rintro e w7 ⟨v7, rfl, ⟨b7, rfl⟩, ht7, hb7⟩
    have HTC7 := Lib.hid ht7
    have H37 := Lib.hid (H36.out.trans (hb7.mono H36.out.size))
    have HT7 := Lib.hid (HT6.out.next hb7)
    have HTU7 := Lib.hid (HTU6.out.next hb7)
    have HK7 := Lib.hid (slB_up HK6.out hb7)
    have HV7 := Lib.hid (slB_up HV6.out hb7)
    have HA7 := Lib.hid (slB_up HA6.out hb7)
    have HW7 := Lib.hid (slB_up HW6.out hb7)
    have HC7 := Lib.hid (getM_any B d key w7 HTC7.out HK7.out)
    rw [get_cut, Option.isSome_none] at HC7
    obtain ⟨z, hz⟩ : ∃ z : By, (none : Option By).getD [] = z := ⟨_, rfl⟩
    rw [hz] at HC7
    clear ht7 hb7 HC6 hz
    go_wp2_with fail
    refine HC7.out.mono ?_
    rintro e w8 ⟨A8, c8, rfl, _, hb8⟩
    have H38 := Lib.hid (H37.out.trans (hb8.mono H37.out.size))
    have HT8 := Lib.hid (HT7.out.next hb8)
    have HTU8 := Lib.hid (HTU7.out.next hb8)
    have HTC8 := Lib.hid (HTC7.out.next hb8)
    have HK8 := Lib.hid (slB_up HK7.out hb8)
    have HV8 := Lib.hid (slB_up HV7.out hb8)
    have HA8 := Lib.hid (slB_up HA7.out hb8)
    have HW8 := Lib.hid (slB_up HW7.out hb8)
    have HC8 := Lib.hid (cutM_any B d key w8 HT8.out HK8.out)
    clear hb8 HC7
    go_wp2_with fail
    refine HC8.out.mono ?_
    rintro e w9 ⟨v9, rfl, ⟨b9, rfl⟩, ht9, hb9⟩
    have H39 := Lib.hid (H38.out.trans (hb9.mono H38.out.size))
    have HT9 := Lib.hid (HT8.out.next hb9)
    have HTU9 := Lib.hid (HTU8.out.next hb9)
    have HTC9 := Lib.hid (HTC8.out.next hb9)
    have HK9 := Lib.hid (slB_up HK8.out hb9)
    have HV9 := Lib.hid (slB_up HV8.out hb9)
    have HA9 := Lib.hid (slB_up HA8.out hb9)
    have HW9 := Lib.hid (slB_up HW8.out hb9)
    have HC9 := Lib.hid (equal_any w9 HTC9.out ht9)
    have s1 := slB_string HW9.out c6
    have s2 := slB_string HV9.out d'
    clear ht9 hb9 HC8
    go_wp2_with fail
    refine HC9.out.mono ?_
    rintro e w10 ⟨rfl, hb10⟩
    have H310 := Lib.hid (H39.out.trans (hb10.mono H39.out.size))
    have HT10 := Lib.hid (HT9.out.next hb10)
    have HTU10 := Lib.hid (HTU9.out.next hb10)
    have HTC10 := Lib.hid (HTC9.out.next hb10)
    have HK10 := Lib.hid (slB_up HK9.out hb10)
    have HV10 := Lib.hid (slB_up HV9.out hb10)
    have HA10 := Lib.hid (slB_up HA9.out hb10)
    have HW10 := Lib.hid (slB_up HW9.out hb10)
    clear hb10 HC9 s1 s2
    have HTX := HTC10
    rw [cut_none HGL0.out] at HTX
    have HC10 := Lib.hid (equal_any w10 HTX.out HT10.out)
    go_wp2_with fail
    refine HC10.out.mono ?_
    rintro e w11 ⟨rfl, hb11⟩
    have H311 := Lib.hid (H310.out.trans (hb11.mono H310.out.size))
    have HT11 := Lib.hid (HT10.out.next hb11)
    have HTU11 := Lib.hid (HTU10.out.next hb11)
    have HK11 := Lib.hid (slB_up HK10.out hb11)
    have HV11 := Lib.hid (slB_up HV10.out hb11)
    have HA11 := Lib.hid (slB_up HA10.out hb11)
    have HW11 := Lib.hid (slB_up HW10.out hb11)
    clear hb11 HC10 HTX
    go_wp2_with fail
    go_loopg [113] n (fun gk i wr => ∃ (j : Nat), i = .int .i64 (j : Nat) ∧ j + gk = n ∧ Hid (Below w11.heap.size w11 wr))
    case atStart => exact ⟨0, rfl, by omega, Below.refl _ _⟩
    case round =>
      obtain ⟨j, rfl, hj, HB⟩ := hrel
      cases gk with
      | zero =>
        have hjz : ¬ ((j : Int) < (n : Int)) := by omega
        have hjz' : decide ((j : Int) < (n : Int)) = false := decide_eq_false hjz
        have HC := Lib.hid (getM_any B d key wr (HT11.out.next HB.out) (slB_up HK11.out HB.out))
        rw [HO.out, HE0.out] at HC
        go_wp2_with fail
        refine HC.out.mono ?_
        rintro e wx ⟨Ax, cx, rfl, hox, hbx⟩
        have HBX := Lib.hid (HB.out.trans (hbx.mono HB.out.size))
        have s1 := slB_string (SlB.of_own hox).2 cx
        have s2 := slB_string (slB_up HA11.out HBX.out) c4
        have HLA := Lib.hid (len_any wx (HT11.out.next HBX.out))
        have HLU := Lib.hid (len_any wx (HTU11.out.next HBX.out))
        rw [HNN.out] at HLA
        rw [HG4.out HGL0.out] at HLU
        have HF : Hid (OrdEnd w (.returned (.bool true)) wx) := ⟨rfl, HB3.out.trans ((H311.out.trans (HBX.out.mono H311.out.size)).mono HB3.out.size)⟩
        clear hox hbx HC
        go_wp2_with fail
        refine HLA.out.mono ?_
        rintro e w' ⟨rfl, rfl⟩
        go_wp2_with fail
        refine HLU.out.mono ?_
        rintro e w' ⟨rfl, rfl⟩
        clear s1 s2 HLA HLU
        have hwn : IntKind.i64.wrap ((n : Int) + 1) = (n : Int) + 1 := IntWalk.i64_in _ (by omega)
        have hwm : IntKind.i64.wrap (n : Int) = (n : Int) := IntWalk.i64_in _ (by omega)
        go_wp2
        go_ret
        exact HF.out
      | succ gk =>
        have hjz : ((j : Int) < (n : Int)) := by omega
        have hjz' : decide ((j : Int) < (n : Int)) = true := decide_eq_true hjz
        have hjn : j < n := by omega
        have hj0 : (0 : Int) ≤ (j : Int) := by omega
        obtain ⟨p, hp⟩ : ∃ p, L[j]? = some p := ⟨_, List.getElem?_eq_getElem (by rw [HNN.out]; exact hjn)⟩
        have HMP := Lib.hid (List.mem_of_getElem? hp)
        obtain ⟨a0, H1, k1, H2, k2, rfl, hgl, hc1, hc2, hs1, hs2⟩ := HO3.out.pair HQ3.out (i := j) hp
        have HC1 := Lib.hid hc1
        have HC2 := Lib.hid hc2
        have HGL := Lib.hid hgl
        have HK1 := Lib.hid hs1
        have HK2 := Lib.hid hs2
        have H3r := Lib.hid (H311.out.trans (HB.out.mono H311.out.size))
        have HCA := Lib.hid (getM_any H1 k1 p.1 wr (HT11.out.next HB.out) (slB_up hs1 H3r.out))
        rw [get_self HR.out HMP.out, Option.getD_some, Option.isSome_some] at HCA
        have q0 : wr.cell? ⟨a0, j * 2, none⟩ = some (.slice H1 p.1.length k1) := (H3r.out.cell (p := ⟨a0, j * 2, none⟩) hgl).trans hc1
        clear hp hgl hc1 hc2 hs1 hs2
        go_wp2_with fail
        refine HCA.out.mono ?_
        rintro e wy ⟨Ay, cy, rfl, hoy, hby⟩
        have HAY := Lib.hid (SlB.of_own hoy).2
        have HBY := Lib.hid (HB.out.trans (hby.mono HB.out.size))
        have H3y := Lib.hid (H311.out.trans (HBY.out.mono H311.out.size))
        have HCB := Lib.hid (getM_any H1 k1 p.1 wy (HTU11.out.next HBY.out) (slB_up HK1.out H3y.out))
        have q1 : wy.cell? ⟨a0, j * 2, none⟩ = some (.slice H1 p.1.length k1) := (H3y.out.cell (p := ⟨a0, j * 2, none⟩) HGL.out).trans HC1.out
        clear hoy hby HCA q0
        by_cases gq : p.1 = key
        · have hke : (p.1 == key) = true := by rw [gq]; exact beq_self_eq_true _
          have hgq : getL L2 p.1 = some val := by rw [gq]; exact HG1.out
          rw [hgq, Option.getD_some, Option.isSome_some] at HCB
          have hstr : (⟨p.1.toArray⟩ : ByteArray) = ⟨key.toArray⟩ := by rw [gq]
          clear hgq
          clear gq
          go_wp2_with fail
          refine HCB.out.mono ?_
          rintro e wz ⟨Az, cz, rfl, hoz, hbz⟩
          have HAZ := Lib.hid (SlB.of_own hoz).2
          have HAY2 := Lib.hid (slB_up HAY.out hbz)
          have HBZ := Lib.hid (HBY.out.trans (hbz.mono HBY.out.size))
          have H3z := Lib.hid (H311.out.trans (HBZ.out.mono H311.out.size))
          have HU := Lib.hid (fun X (hX : Below wz.heap.size wz X) => H3z.out.trans (hX.mono H3z.out.size))
          have HS1 := Lib.hid (fun X (hX : Below wz.heap.size wz X) => slB_string (slB_up HK1.out (HU.out X hX)) k1)
          have HS2 := Lib.hid (fun X (hX : Below wz.heap.size wz X) => slB_string (slB_up HK2.out (HU.out X hX)) k2)
          have HSK := Lib.hid (fun X (hX : Below wz.heap.size wz X) => slB_string (slB_up HK11.out (HBZ.out.trans (hX.mono HBZ.out.size))) d)
          have HSY := Lib.hid (fun X (hX : Below wz.heap.size wz X) => slB_string (slB_up HAY2.out hX) cy)
          have HSZ := Lib.hid (fun X (hX : Below wz.heap.size wz X) => slB_string (slB_up HAZ.out hX) cz)
          clear hoz hbz HCB q1
          go_wp2_with fail
          have HS0 := Lib.hid (qb_dn (Below.refl wz.heap.size wz) 1)
          obtain ⟨we, hwe⟩ : ∃ X, wz.drew = X := ⟨_, rfl⟩
          refine wp_region_held_drew (S := fun X => Below wz.heap.size wz X) (by kernel_rfl) HS0.out (fun hHeld => ?_)
          rw [hwe] at hHeld ⊢
          clear hwe HS0
          refine takeV 0 (some 136) ((.bool true)) rfl rfl (by kernel_rfl) (by kernel_rfl) (by kernel_rfl) (fun _ _ _ h => h) (by rfl) (by (intro _w _hSw; (try dsimp only at _hSw); go_simp)) (by assumption) ?_
          simp only [Act.put, List.setIfInBounds_toArray, List.set_cons_zero, List.set_cons_succ]
          refine takeV 1 (some 137) ((.bool false)) rfl rfl (by kernel_rfl) (by kernel_rfl) (by kernel_rfl) (fun _ _ _ h => h) (by rfl) (by (intro _w _hSw; (try dsimp only at _hSw); go_simp)) (by assumption) ?_
          simp only [Act.put, List.setIfInBounds_toArray, List.set_cons_zero, List.set_cons_succ]
          refine takeV 2 (some 138) ((.bool false)) rfl rfl (by kernel_rfl) (by kernel_rfl) (by kernel_rfl) (fun _ _ _ h => h) (by rfl) (by (intro _w _hSw; (try dsimp only at _hSw); go_simp)) (by assumption) ?_
          simp only [Act.put, List.setIfInBounds_toArray, List.set_cons_zero, List.set_cons_succ]
          refine takeV 3 (some 139) ((.bool true)) rfl rfl (by kernel_rfl) (by kernel_rfl) (by kernel_rfl) (fun _ _ _ h => h) (by rfl) (by (intro _w _hSw; (try dsimp only at _hSw); go_simp)) (by assumption) ?_
          simp only [Act.put, List.setIfInBounds_toArray, List.set_cons_zero, List.set_cons_succ]
          refine takeV 4 (some 140) ((.bool false)) rfl rfl (by kernel_rfl) (by kernel_rfl) (by kernel_rfl) (fun _ _ _ h => h) (by rfl) (by (intro _w _hSw; (try dsimp only at _hSw); go_simp)) (by assumption) ?_
          simp only [Act.put, List.setIfInBounds_toArray, List.set_cons_zero, List.set_cons_succ]
          refine takeV 5 (some 141) ((.bool false)) rfl rfl (by kernel_rfl) (by kernel_rfl) (by kernel_rfl) (fun _ _ _ h => h) (by rfl) (by (intro _w _hSw; (try dsimp only at _hSw); go_simp)) (by assumption) ?_
          simp only [Act.put, List.setIfInBounds_toArray, List.set_cons_zero, List.set_cons_succ]
          refine takeV 6 (some 142) ((.bool false)) rfl rfl (by kernel_rfl) (by kernel_rfl) (by kernel_rfl) (fun _ _ _ h => h) (by rfl) (by (intro _w _hSw; (try dsimp only at _hSw); go_simp)) (by assumption) ?_
          simp only [Act.put, List.setIfInBounds_toArray, List.set_cons_zero, List.set_cons_succ]
          refine takeV 7 (some 143) ((.slice Ay p.2.length cy)) rfl rfl (by kernel_rfl) (by kernel_rfl) (by kernel_rfl) (fun _ _ _ h => h) (by rfl) (by (intro _w _hSw; (try dsimp only at _hSw); go_simp)) (by assumption) ?_
          simp only [Act.put, List.setIfInBounds_toArray, List.set_cons_zero, List.set_cons_succ]
          refine takeV 8 (some 144) ((.string ⟨p.2.toArray⟩)) rfl rfl (by kernel_rfl) (by kernel_rfl) (by kernel_rfl) (fun _ _ _ h => h) (by rfl) (by (intro _w hSw; have q0 := HSY.out _w hSw; clear hSw; go_simp)) (by assumption) ?_
          simp only [Act.put, List.setIfInBounds_toArray, List.set_cons_zero, List.set_cons_succ]
          refine takeV 9 (some 145) ((.slice (some ⟨a0, 0, none⟩) n c3)) rfl rfl (by kernel_rfl) (by kernel_rfl) (by kernel_rfl) (fun _ _ _ h => h) (by rfl) (by (intro _w _hSw; (try dsimp only at _hSw); go_simp)) (by assumption) ?_
          simp only [Act.put, List.setIfInBounds_toArray, List.set_cons_zero, List.set_cons_succ]
          refine takeV 10 (some 146) ((.int .i64 (j : Nat))) rfl rfl (by kernel_rfl) (by kernel_rfl) (by kernel_rfl) (fun _ _ _ h => h) (by rfl) (by (intro _w _hSw; (try dsimp only at _hSw); go_simp)) (by assumption) ?_
          simp only [Act.put, List.setIfInBounds_toArray, List.set_cons_zero, List.set_cons_succ]
          refine takeV 11 (some 147) ((.pointer (some ⟨a0, j * 2, none⟩))) rfl rfl (by kernel_rfl) (by kernel_rfl) (by kernel_rfl) (fun _ _ _ h => h) (by rfl) (by (intro _w _hSw; (try dsimp only at _hSw); go_simp)) (by assumption) ?_
          simp only [Act.put, List.setIfInBounds_toArray, List.set_cons_zero, List.set_cons_succ]
          refine takeV 12 (some 148) ((.pointer (some ⟨a0, j * 2 + 1, none⟩))) rfl rfl (by kernel_rfl) (by kernel_rfl) (by kernel_rfl) (fun _ _ _ h => h) (by rfl) (by (intro _w _hSw; (try dsimp only at _hSw); go_simp)) (by assumption) ?_
          simp only [Act.put, List.setIfInBounds_toArray, List.set_cons_zero, List.set_cons_succ]
          refine takeV 13 (some 149) ((.slice H2 p.2.length k2)) rfl rfl (by kernel_rfl) (by kernel_rfl) (by kernel_rfl) (fun _ _ _ h => h) (by rfl) (by (intro _w hSw; have q0 := ((HU.out _w hSw).cell (p := ⟨a0, j * 2 + 1, none⟩) HGL.out).trans HC2.out; clear hSw; go_simp)) (by assumption) ?_
          simp only [Act.put, List.setIfInBounds_toArray, List.set_cons_zero, List.set_cons_succ]
          refine takeV 14 (some 150) ((.string ⟨p.2.toArray⟩)) rfl rfl (by kernel_rfl) (by kernel_rfl) (by kernel_rfl) (fun _ _ _ h => h) (by rfl) (by (intro _w hSw; have q0 := HS2.out _w hSw; clear hSw; go_simp)) (by assumption) ?_
          simp only [Act.put, List.setIfInBounds_toArray, List.set_cons_zero, List.set_cons_succ]
          refine takeV 15 (some 151) ((.bool false)) rfl rfl (by kernel_rfl) (by kernel_rfl) (by kernel_rfl) (fun _ _ _ h => h) (by rfl) (by (intro _w _hSw; (try dsimp only at _hSw); go_simp)) (by assumption) ?_
          simp only [Act.put, List.setIfInBounds_toArray, List.set_cons_zero, List.set_cons_succ]
          refine takeV 16 (some 152) ((.bool false)) rfl rfl (by kernel_rfl) (by kernel_rfl) (by kernel_rfl) (fun _ _ _ h => h) (by rfl) (by (intro _w _hSw; (try dsimp only at _hSw); go_simp)) (by assumption) ?_
          simp only [Act.put, List.setIfInBounds_toArray, List.set_cons_zero, List.set_cons_succ]
          refine takeV 17 (some 153) ((.bool false)) rfl rfl (by kernel_rfl) (by kernel_rfl) (by kernel_rfl) (fun _ _ _ h => h) (by rfl) (by (intro _w _hSw; (try dsimp only at _hSw); go_simp)) (by assumption) ?_
          simp only [Act.put, List.setIfInBounds_toArray, List.set_cons_zero, List.set_cons_succ]
          refine takeV 18 (some 154) ((.slice (some ⟨a0, 0, none⟩) n c3)) rfl rfl (by kernel_rfl) (by kernel_rfl) (by kernel_rfl) (fun _ _ _ h => h) (by rfl) (by (intro _w _hSw; (try dsimp only at _hSw); go_simp)) (by assumption) ?_
          simp only [Act.put, List.setIfInBounds_toArray, List.set_cons_zero, List.set_cons_succ]
          refine takeV 19 (some 155) ((.int .i64 (j : Nat))) rfl rfl (by kernel_rfl) (by kernel_rfl) (by kernel_rfl) (fun _ _ _ h => h) (by rfl) (by (intro _w _hSw; (try dsimp only at _hSw); go_simp)) (by assumption) ?_
          simp only [Act.put, List.setIfInBounds_toArray, List.set_cons_zero, List.set_cons_succ]
          refine takeV 20 (some 156) ((.pointer (some ⟨a0, j * 2, none⟩))) rfl rfl (by kernel_rfl) (by kernel_rfl) (by kernel_rfl) (fun _ _ _ h => h) (by rfl) (by (intro _w _hSw; (try dsimp only at _hSw); go_simp)) (by assumption) ?_
          simp only [Act.put, List.setIfInBounds_toArray, List.set_cons_zero, List.set_cons_succ]
          refine takeV 21 (some 157) ((.pointer (some ⟨a0, j * 2, none⟩))) rfl rfl (by kernel_rfl) (by kernel_rfl) (by kernel_rfl) (fun _ _ _ h => h) (by rfl) (by (intro _w _hSw; (try dsimp only at _hSw); go_simp)) (by assumption) ?_
          simp only [Act.put, List.setIfInBounds_toArray, List.set_cons_zero, List.set_cons_succ]
          refine takeV 22 (some 158) ((.slice H1 p.1.length k1)) rfl rfl (by kernel_rfl) (by kernel_rfl) (by kernel_rfl) (fun _ _ _ h => h) (by rfl) (by (intro _w hSw; have q0 := ((HU.out _w hSw).cell (p := ⟨a0, j * 2, none⟩) HGL.out).trans HC1.out; clear hSw; go_simp)) (by assumption) ?_
          simp only [Act.put, List.setIfInBounds_toArray, List.set_cons_zero, List.set_cons_succ]
          refine takeV 23 (some 159) ((.string ⟨p.1.toArray⟩)) rfl rfl (by kernel_rfl) (by kernel_rfl) (by kernel_rfl) (fun _ _ _ h => h) (by rfl) (by (intro _w hSw; have q0 := HS1.out _w hSw; clear hSw; go_simp)) (by assumption) ?_
          simp only [Act.put, List.setIfInBounds_toArray, List.set_cons_zero, List.set_cons_succ]
          refine takeV 24 (some 160) ((.slice B key.length d)) rfl rfl (by kernel_rfl) (by kernel_rfl) (by kernel_rfl) (fun _ _ _ h => h) (by rfl) (by (intro _w _hSw; (try dsimp only at _hSw); go_simp)) (by assumption) ?_
          simp only [Act.put, List.setIfInBounds_toArray, List.set_cons_zero, List.set_cons_succ]
          refine takeV 25 (some 161) ((.string ⟨key.toArray⟩)) rfl rfl (by kernel_rfl) (by kernel_rfl) (by kernel_rfl) (fun _ _ _ h => h) (by rfl) (by (intro _w hSw; have q0 := HSK.out _w hSw; clear hSw; go_simp)) (by assumption) ?_
          simp only [Act.put, List.setIfInBounds_toArray, List.set_cons_zero, List.set_cons_succ]
          refine takeV 26 (some 162) ((.bool false)) rfl rfl (by kernel_rfl) (by kernel_rfl) (by kernel_rfl) (fun _ _ _ h => h) (by rfl) (by (intro _w _hSw; (try dsimp only at _hSw); go_simp)) (by assumption) ?_
          simp only [Act.put, List.setIfInBounds_toArray, List.set_cons_zero, List.set_cons_succ]
          refine takeV 27 (some 163) ((.bool false)) rfl rfl (by kernel_rfl) (by kernel_rfl) (by kernel_rfl) (fun _ _ _ h => h) (by rfl) (by (intro _w _hSw; (try dsimp only at _hSw); go_simp)) (by assumption) ?_
          simp only [Act.put, List.setIfInBounds_toArray, List.set_cons_zero, List.set_cons_succ]
          refine skipV 28 (some 164) rfl rfl (by kernel_rfl) (by kernel_rfl) (by kernel_rfl) (fun _ _ _ h => h) (by rfl) (by assumption) ?_
          simp only [Act.put, List.setIfInBounds_toArray, List.set_cons_zero, List.set_cons_succ]
          refine skipV 29 (some 165) rfl rfl (by kernel_rfl) (by kernel_rfl) (by kernel_rfl) (fun _ _ _ h => h) (by rfl) (by assumption) ?_
          simp only [Act.put, List.setIfInBounds_toArray, List.set_cons_zero, List.set_cons_succ]
          refine skipV 30 (some 166) rfl rfl (by kernel_rfl) (by kernel_rfl) (by kernel_rfl) (fun _ _ _ h => h) (by rfl) (by assumption) ?_
          simp only [Act.put, List.setIfInBounds_toArray, List.set_cons_zero, List.set_cons_succ]
          refine skipV 31 (some 167) rfl rfl (by kernel_rfl) (by kernel_rfl) (by kernel_rfl) (fun _ _ _ h => h) (by rfl) (by assumption) ?_
          simp only [Act.put, List.setIfInBounds_toArray, List.set_cons_zero, List.set_cons_succ]
          refine skipV 32 (some 168) rfl rfl (by kernel_rfl) (by kernel_rfl) (by kernel_rfl) (fun _ _ _ h => h) (by rfl) (by assumption) ?_
          simp only [Act.put, List.setIfInBounds_toArray, List.set_cons_zero, List.set_cons_succ]
          refine takeV 33 (some 169) ((.bool false)) rfl rfl (by kernel_rfl) (by kernel_rfl) (by kernel_rfl) (fun _ _ _ h => h) (by rfl) (by (intro _w _hSw; (try dsimp only at _hSw); go_simp)) (by assumption) ?_
          simp only [Act.put, List.setIfInBounds_toArray, List.set_cons_zero, List.set_cons_succ]
          refine takeV 34 (some 170) ((.bool false)) rfl rfl (by kernel_rfl) (by kernel_rfl) (by kernel_rfl) (fun _ _ _ h => h) (by rfl) (by (intro _w _hSw; (try dsimp only at _hSw); go_simp)) (by assumption) ?_
          simp only [Act.put, List.setIfInBounds_toArray, List.set_cons_zero, List.set_cons_succ]
          refine wpAnyH_done (by kernel_rfl) ?_ _
          have HBR := Lib.hid (HBZ.out.trans (hHeld.mono HBZ.out.size))
          clear hHeld
          go_wp2
          go_roundg gk
          case measure => omega
          case rel => exact ⟨j + 1, by go_num, by omega, HBR.out⟩
        · have hke : (p.1 == key) = false := beq_eq_false_iff_ne.2 gq
          rw [HG3.out p HMP.out gq, Option.getD_some, Option.isSome_some] at HCB
          clear gq
          go_wp2_with fail
          refine HCB.out.mono ?_
          rintro e wz ⟨Az, cz, rfl, hoz, hbz⟩
          have HAZ := Lib.hid (SlB.of_own hoz).2
          have HAY2 := Lib.hid (slB_up HAY.out hbz)
          have HBZ := Lib.hid (HBY.out.trans (hbz.mono HBY.out.size))
          have H3z := Lib.hid (H311.out.trans (HBZ.out.mono H311.out.size))
          have HU := Lib.hid (fun X (hX : Below wz.heap.size wz X) => H3z.out.trans (hX.mono H3z.out.size))
          have HS1 := Lib.hid (fun X (hX : Below wz.heap.size wz X) => slB_string (slB_up HK1.out (HU.out X hX)) k1)
          have HS2 := Lib.hid (fun X (hX : Below wz.heap.size wz X) => slB_string (slB_up HK2.out (HU.out X hX)) k2)
          have HSK := Lib.hid (fun X (hX : Below wz.heap.size wz X) => slB_string (slB_up HK11.out (HBZ.out.trans (hX.mono HBZ.out.size))) d)
          have HSY := Lib.hid (fun X (hX : Below wz.heap.size wz X) => slB_string (slB_up HAY2.out hX) cy)
          have HSZ := Lib.hid (fun X (hX : Below wz.heap.size wz X) => slB_string (slB_up HAZ.out hX) cz)
          clear hoz hbz HCB q1
          go_wp2_with fail
          have HS0 := Lib.hid (qb_dn (Below.refl wz.heap.size wz) 1)
          obtain ⟨we, hwe⟩ : ∃ X, wz.drew = X := ⟨_, rfl⟩
          refine wp_region_held_drew (S := fun X => Below wz.heap.size wz X) (by kernel_rfl) HS0.out (fun hHeld => ?_)
          rw [hwe] at hHeld ⊢
          clear hwe HS0
          refine takeV 0 (some 136) ((.bool true)) rfl rfl (by kernel_rfl) (by kernel_rfl) (by kernel_rfl) (fun _ _ _ h => h) (by rfl) (by (intro _w _hSw; (try dsimp only at _hSw); go_simp)) (by assumption) ?_
          simp only [Act.put, List.setIfInBounds_toArray, List.set_cons_zero, List.set_cons_succ]
          refine takeV 1 (some 137) ((.bool false)) rfl rfl (by kernel_rfl) (by kernel_rfl) (by kernel_rfl) (fun _ _ _ h => h) (by rfl) (by (intro _w _hSw; (try dsimp only at _hSw); go_simp)) (by assumption) ?_
          simp only [Act.put, List.setIfInBounds_toArray, List.set_cons_zero, List.set_cons_succ]
          refine takeV 2 (some 138) ((.bool false)) rfl rfl (by kernel_rfl) (by kernel_rfl) (by kernel_rfl) (fun _ _ _ h => h) (by rfl) (by (intro _w _hSw; (try dsimp only at _hSw); go_simp)) (by assumption) ?_
          simp only [Act.put, List.setIfInBounds_toArray, List.set_cons_zero, List.set_cons_succ]
          refine takeV 3 (some 139) ((.bool true)) rfl rfl (by kernel_rfl) (by kernel_rfl) (by kernel_rfl) (fun _ _ _ h => h) (by rfl) (by (intro _w _hSw; (try dsimp only at _hSw); go_simp)) (by assumption) ?_
          simp only [Act.put, List.setIfInBounds_toArray, List.set_cons_zero, List.set_cons_succ]
          refine takeV 4 (some 140) ((.bool false)) rfl rfl (by kernel_rfl) (by kernel_rfl) (by kernel_rfl) (fun _ _ _ h => h) (by rfl) (by (intro _w _hSw; (try dsimp only at _hSw); go_simp)) (by assumption) ?_
          simp only [Act.put, List.setIfInBounds_toArray, List.set_cons_zero, List.set_cons_succ]
          refine takeV 5 (some 141) ((.bool false)) rfl rfl (by kernel_rfl) (by kernel_rfl) (by kernel_rfl) (fun _ _ _ h => h) (by rfl) (by (intro _w _hSw; (try dsimp only at _hSw); go_simp)) (by assumption) ?_
          simp only [Act.put, List.setIfInBounds_toArray, List.set_cons_zero, List.set_cons_succ]
          refine takeV 6 (some 142) ((.bool false)) rfl rfl (by kernel_rfl) (by kernel_rfl) (by kernel_rfl) (fun _ _ _ h => h) (by rfl) (by (intro _w _hSw; (try dsimp only at _hSw); go_simp)) (by assumption) ?_
          simp only [Act.put, List.setIfInBounds_toArray, List.set_cons_zero, List.set_cons_succ]
          refine takeV 7 (some 143) ((.slice Ay p.2.length cy)) rfl rfl (by kernel_rfl) (by kernel_rfl) (by kernel_rfl) (fun _ _ _ h => h) (by rfl) (by (intro _w _hSw; (try dsimp only at _hSw); go_simp)) (by assumption) ?_
          simp only [Act.put, List.setIfInBounds_toArray, List.set_cons_zero, List.set_cons_succ]
          refine takeV 8 (some 144) ((.string ⟨p.2.toArray⟩)) rfl rfl (by kernel_rfl) (by kernel_rfl) (by kernel_rfl) (fun _ _ _ h => h) (by rfl) (by (intro _w hSw; have q0 := HSY.out _w hSw; clear hSw; go_simp)) (by assumption) ?_
          simp only [Act.put, List.setIfInBounds_toArray, List.set_cons_zero, List.set_cons_succ]
          refine takeV 9 (some 145) ((.slice (some ⟨a0, 0, none⟩) n c3)) rfl rfl (by kernel_rfl) (by kernel_rfl) (by kernel_rfl) (fun _ _ _ h => h) (by rfl) (by (intro _w _hSw; (try dsimp only at _hSw); go_simp)) (by assumption) ?_
          simp only [Act.put, List.setIfInBounds_toArray, List.set_cons_zero, List.set_cons_succ]
          refine takeV 10 (some 146) ((.int .i64 (j : Nat))) rfl rfl (by kernel_rfl) (by kernel_rfl) (by kernel_rfl) (fun _ _ _ h => h) (by rfl) (by (intro _w _hSw; (try dsimp only at _hSw); go_simp)) (by assumption) ?_
          simp only [Act.put, List.setIfInBounds_toArray, List.set_cons_zero, List.set_cons_succ]
          refine takeV 11 (some 147) ((.pointer (some ⟨a0, j * 2, none⟩))) rfl rfl (by kernel_rfl) (by kernel_rfl) (by kernel_rfl) (fun _ _ _ h => h) (by rfl) (by (intro _w _hSw; (try dsimp only at _hSw); go_simp)) (by assumption) ?_
          simp only [Act.put, List.setIfInBounds_toArray, List.set_cons_zero, List.set_cons_succ]
          refine takeV 12 (some 148) ((.pointer (some ⟨a0, j * 2 + 1, none⟩))) rfl rfl (by kernel_rfl) (by kernel_rfl) (by kernel_rfl) (fun _ _ _ h => h) (by rfl) (by (intro _w _hSw; (try dsimp only at _hSw); go_simp)) (by assumption) ?_
          simp only [Act.put, List.setIfInBounds_toArray, List.set_cons_zero, List.set_cons_succ]
          refine takeV 13 (some 149) ((.slice H2 p.2.length k2)) rfl rfl (by kernel_rfl) (by kernel_rfl) (by kernel_rfl) (fun _ _ _ h => h) (by rfl) (by (intro _w hSw; have q0 := ((HU.out _w hSw).cell (p := ⟨a0, j * 2 + 1, none⟩) HGL.out).trans HC2.out; clear hSw; go_simp)) (by assumption) ?_
          simp only [Act.put, List.setIfInBounds_toArray, List.set_cons_zero, List.set_cons_succ]
          refine takeV 14 (some 150) ((.string ⟨p.2.toArray⟩)) rfl rfl (by kernel_rfl) (by kernel_rfl) (by kernel_rfl) (fun _ _ _ h => h) (by rfl) (by (intro _w hSw; have q0 := HS2.out _w hSw; clear hSw; go_simp)) (by assumption) ?_
          simp only [Act.put, List.setIfInBounds_toArray, List.set_cons_zero, List.set_cons_succ]
          refine takeV 15 (some 151) ((.bool false)) rfl rfl (by kernel_rfl) (by kernel_rfl) (by kernel_rfl) (fun _ _ _ h => h) (by rfl) (by (intro _w _hSw; (try dsimp only at _hSw); go_simp)) (by assumption) ?_
          simp only [Act.put, List.setIfInBounds_toArray, List.set_cons_zero, List.set_cons_succ]
          refine takeV 16 (some 152) ((.bool false)) rfl rfl (by kernel_rfl) (by kernel_rfl) (by kernel_rfl) (fun _ _ _ h => h) (by rfl) (by (intro _w _hSw; (try dsimp only at _hSw); go_simp)) (by assumption) ?_
          simp only [Act.put, List.setIfInBounds_toArray, List.set_cons_zero, List.set_cons_succ]
          refine takeV 17 (some 153) ((.bool false)) rfl rfl (by kernel_rfl) (by kernel_rfl) (by kernel_rfl) (fun _ _ _ h => h) (by rfl) (by (intro _w _hSw; (try dsimp only at _hSw); go_simp)) (by assumption) ?_
          simp only [Act.put, List.setIfInBounds_toArray, List.set_cons_zero, List.set_cons_succ]
          refine takeV 18 (some 154) ((.slice (some ⟨a0, 0, none⟩) n c3)) rfl rfl (by kernel_rfl) (by kernel_rfl) (by kernel_rfl) (fun _ _ _ h => h) (by rfl) (by (intro _w _hSw; (try dsimp only at _hSw); go_simp)) (by assumption) ?_
          simp only [Act.put, List.setIfInBounds_toArray, List.set_cons_zero, List.set_cons_succ]
          refine takeV 19 (some 155) ((.int .i64 (j : Nat))) rfl rfl (by kernel_rfl) (by kernel_rfl) (by kernel_rfl) (fun _ _ _ h => h) (by rfl) (by (intro _w _hSw; (try dsimp only at _hSw); go_simp)) (by assumption) ?_
          simp only [Act.put, List.setIfInBounds_toArray, List.set_cons_zero, List.set_cons_succ]
          refine takeV 20 (some 156) ((.pointer (some ⟨a0, j * 2, none⟩))) rfl rfl (by kernel_rfl) (by kernel_rfl) (by kernel_rfl) (fun _ _ _ h => h) (by rfl) (by (intro _w _hSw; (try dsimp only at _hSw); go_simp)) (by assumption) ?_
          simp only [Act.put, List.setIfInBounds_toArray, List.set_cons_zero, List.set_cons_succ]
          refine takeV 21 (some 157) ((.pointer (some ⟨a0, j * 2, none⟩))) rfl rfl (by kernel_rfl) (by kernel_rfl) (by kernel_rfl) (fun _ _ _ h => h) (by rfl) (by (intro _w _hSw; (try dsimp only at _hSw); go_simp)) (by assumption) ?_
          simp only [Act.put, List.setIfInBounds_toArray, List.set_cons_zero, List.set_cons_succ]
          refine takeV 22 (some 158) ((.slice H1 p.1.length k1)) rfl rfl (by kernel_rfl) (by kernel_rfl) (by kernel_rfl) (fun _ _ _ h => h) (by rfl) (by (intro _w hSw; have q0 := ((HU.out _w hSw).cell (p := ⟨a0, j * 2, none⟩) HGL.out).trans HC1.out; clear hSw; go_simp)) (by assumption) ?_
          simp only [Act.put, List.setIfInBounds_toArray, List.set_cons_zero, List.set_cons_succ]
          refine takeV 23 (some 159) ((.string ⟨p.1.toArray⟩)) rfl rfl (by kernel_rfl) (by kernel_rfl) (by kernel_rfl) (fun _ _ _ h => h) (by rfl) (by (intro _w hSw; have q0 := HS1.out _w hSw; clear hSw; go_simp)) (by assumption) ?_
          simp only [Act.put, List.setIfInBounds_toArray, List.set_cons_zero, List.set_cons_succ]
          refine takeV 24 (some 160) ((.slice B key.length d)) rfl rfl (by kernel_rfl) (by kernel_rfl) (by kernel_rfl) (fun _ _ _ h => h) (by rfl) (by (intro _w _hSw; (try dsimp only at _hSw); go_simp)) (by assumption) ?_
          simp only [Act.put, List.setIfInBounds_toArray, List.set_cons_zero, List.set_cons_succ]
          refine takeV 25 (some 161) ((.string ⟨key.toArray⟩)) rfl rfl (by kernel_rfl) (by kernel_rfl) (by kernel_rfl) (fun _ _ _ h => h) (by rfl) (by (intro _w hSw; have q0 := HSK.out _w hSw; clear hSw; go_simp)) (by assumption) ?_
          simp only [Act.put, List.setIfInBounds_toArray, List.set_cons_zero, List.set_cons_succ]
          refine takeV 26 (some 162) ((.bool true)) rfl rfl (by kernel_rfl) (by kernel_rfl) (by kernel_rfl) (fun _ _ _ h => h) (by rfl) (by (intro _w _hSw; (try dsimp only at _hSw); go_simp)) (by assumption) ?_
          simp only [Act.put, List.setIfInBounds_toArray, List.set_cons_zero, List.set_cons_succ]
          refine takeV 27 (some 163) ((.bool true)) rfl rfl (by kernel_rfl) (by kernel_rfl) (by kernel_rfl) (fun _ _ _ h => h) (by rfl) (by (intro _w _hSw; (try dsimp only at _hSw); go_simp)) (by assumption) ?_
          simp only [Act.put, List.setIfInBounds_toArray, List.set_cons_zero, List.set_cons_succ]
          refine takeV 28 (some 164) ((.slice Az p.2.length cz)) rfl rfl (by kernel_rfl) (by kernel_rfl) (by kernel_rfl) (fun _ _ _ h => h) (by rfl) (by (intro _w _hSw; (try dsimp only at _hSw); go_simp)) (by assumption) ?_
          simp only [Act.put, List.setIfInBounds_toArray, List.set_cons_zero, List.set_cons_succ]
          refine takeV 29 (some 165) ((.string ⟨p.2.toArray⟩)) rfl rfl (by kernel_rfl) (by kernel_rfl) (by kernel_rfl) (fun _ _ _ h => h) (by rfl) (by (intro _w hSw; have q0 := HSZ.out _w hSw; clear hSw; go_simp)) (by assumption) ?_
          simp only [Act.put, List.setIfInBounds_toArray, List.set_cons_zero, List.set_cons_succ]
          refine takeV 30 (some 166) ((.slice Ay p.2.length cy)) rfl rfl (by kernel_rfl) (by kernel_rfl) (by kernel_rfl) (fun _ _ _ h => h) (by rfl) (by (intro _w _hSw; (try dsimp only at _hSw); go_simp)) (by assumption) ?_
          simp only [Act.put, List.setIfInBounds_toArray, List.set_cons_zero, List.set_cons_succ]
          refine takeV 31 (some 167) ((.string ⟨p.2.toArray⟩)) rfl rfl (by kernel_rfl) (by kernel_rfl) (by kernel_rfl) (fun _ _ _ h => h) (by rfl) (by (intro _w hSw; have q0 := HSY.out _w hSw; clear hSw; go_simp)) (by assumption) ?_
          simp only [Act.put, List.setIfInBounds_toArray, List.set_cons_zero, List.set_cons_succ]
          refine takeV 32 (some 168) ((.bool false)) rfl rfl (by kernel_rfl) (by kernel_rfl) (by kernel_rfl) (fun _ _ _ h => h) (by rfl) (by (intro _w _hSw; (try dsimp only at _hSw); go_simp)) (by assumption) ?_
          simp only [Act.put, List.setIfInBounds_toArray, List.set_cons_zero, List.set_cons_succ]
          refine takeV 33 (some 169) ((.bool false)) rfl rfl (by kernel_rfl) (by kernel_rfl) (by kernel_rfl) (fun _ _ _ h => h) (by rfl) (by (intro _w _hSw; (try dsimp only at _hSw); go_simp)) (by assumption) ?_
          simp only [Act.put, List.setIfInBounds_toArray, List.set_cons_zero, List.set_cons_succ]
          refine takeV 34 (some 170) ((.bool false)) rfl rfl (by kernel_rfl) (by kernel_rfl) (by kernel_rfl) (fun _ _ _ h => h) (by rfl) (by (intro _w _hSw; (try dsimp only at _hSw); go_simp)) (by assumption) ?_
          simp only [Act.put, List.setIfInBounds_toArray, List.set_cons_zero, List.set_cons_succ]
          refine wpAnyH_done (by kernel_rfl) ?_ _
          have HBR := Lib.hid (HBZ.out.trans (hHeld.mono HBZ.out.size))
          clear hHeld
          go_wp2
          go_roundg gk
          case measure => omega
          case rel => exact ⟨j + 1, by go_num, by omega, HBR.out⟩
  · have e0 : (getL L key).isSome = true := by rw [hgl0]; rfl
    have HE0 := Lib.hid e0
    have HGL0 := Lib.hid hgl0
    clear e0 hgl0
    have HC3 := Lib.hid (getM_any B d key w3 HT3.out HK3.out)
    rw [HO.out, HE0.out] at HC3
    go_wp2_with fail
    refine HC3.out.mono ?_
    rintro e w4 ⟨A4, c4, rfl, ho4, hb4⟩
    have HA4 := Lib.hid (SlB.of_own ho4).2
    have H34 := Lib.hid (H33.out.trans (hb4.mono H33.out.size))
    have HT4 := Lib.hid (HT3.out.next hb4)
    have HK4 := Lib.hid (slB_up HK3.out hb4)
    have HV4 := Lib.hid (slB_up HV3.out hb4)
    have HC4 := Lib.hid (putM_any B B' d d' key val w4 HT4.out HK4.out HV4.out HKB.out HVB.out (by have := HLN.out; omega))
    rw [HL2.out] at HC4
    clear ho4 hb4 HC3
    go_wp2_with fail
    refine HC4.out.mono ?_
    rintro e w5 ⟨v5, rfl, ⟨b5, rfl⟩, ht5, hb5⟩
    have HTU5 := Lib.hid ht5
    have H35 := Lib.hid (H34.out.trans (hb5.mono H34.out.size))
    have HT5 := Lib.hid (HT4.out.next hb5)
    have HK5 := Lib.hid (slB_up HK4.out hb5)
    have HV5 := Lib.hid (slB_up HV4.out hb5)
    have HA5 := Lib.hid (slB_up HA4.out hb5)
    have HC5 := Lib.hid (getM_any B d key w5 HTU5.out HK5.out)
    rw [HG1.out, Option.getD_some, Option.isSome_some] at HC5
    clear ht5 hb5 HC4
    go_wp2_with fail
    refine HC5.out.mono ?_
    rintro e w6 ⟨A6, c6, rfl, ho6, hb6⟩
    have HW6 := Lib.hid (SlB.of_own ho6).2
    have H36 := Lib.hid (H35.out.trans (hb6.mono H35.out.size))
    have HT6 := Lib.hid (HT5.out.next hb6)
    have HTU6 := Lib.hid (HTU5.out.next hb6)
    have HK6 := Lib.hid (slB_up HK5.out hb6)
    have HV6 := Lib.hid (slB_up HV5.out hb6)
    have HA6 := Lib.hid (slB_up HA5.out hb6)
    have HC6 := Lib.hid (cutM_any B d key w6 HTU6.out HK6.out)
    rw [HG2.out] at HC6
    clear ho6 hb6 HC5
    go_wp2_with fail
    refine HC6.out.mono ?_
    rintro e w7 ⟨v7, rfl, ⟨b7, rfl⟩, ht7, hb7⟩
    have HTC7 := Lib.hid ht7
    have H37 := Lib.hid (H36.out.trans (hb7.mono H36.out.size))
    have HT7 := Lib.hid (HT6.out.next hb7)
    have HTU7 := Lib.hid (HTU6.out.next hb7)
    have HK7 := Lib.hid (slB_up HK6.out hb7)
    have HV7 := Lib.hid (slB_up HV6.out hb7)
    have HA7 := Lib.hid (slB_up HA6.out hb7)
    have HW7 := Lib.hid (slB_up HW6.out hb7)
    have HC7 := Lib.hid (getM_any B d key w7 HTC7.out HK7.out)
    rw [get_cut, Option.isSome_none] at HC7
    obtain ⟨z, hz⟩ : ∃ z : By, (none : Option By).getD [] = z := ⟨_, rfl⟩
    rw [hz] at HC7
    clear ht7 hb7 HC6 hz
    go_wp2_with fail
    refine HC7.out.mono ?_
    rintro e w8 ⟨A8, c8, rfl, _, hb8⟩
    have H38 := Lib.hid (H37.out.trans (hb8.mono H37.out.size))
    have HT8 := Lib.hid (HT7.out.next hb8)
    have HTU8 := Lib.hid (HTU7.out.next hb8)
    have HTC8 := Lib.hid (HTC7.out.next hb8)
    have HK8 := Lib.hid (slB_up HK7.out hb8)
    have HV8 := Lib.hid (slB_up HV7.out hb8)
    have HA8 := Lib.hid (slB_up HA7.out hb8)
    have HW8 := Lib.hid (slB_up HW7.out hb8)
    have HC8 := Lib.hid (cutM_any B d key w8 HT8.out HK8.out)
    clear hb8 HC7
    go_wp2_with fail
    refine HC8.out.mono ?_
    rintro e w9 ⟨v9, rfl, ⟨b9, rfl⟩, ht9, hb9⟩
    have H39 := Lib.hid (H38.out.trans (hb9.mono H38.out.size))
    have HT9 := Lib.hid (HT8.out.next hb9)
    have HTU9 := Lib.hid (HTU8.out.next hb9)
    have HTC9 := Lib.hid (HTC8.out.next hb9)
    have HK9 := Lib.hid (slB_up HK8.out hb9)
    have HV9 := Lib.hid (slB_up HV8.out hb9)
    have HA9 := Lib.hid (slB_up HA8.out hb9)
    have HW9 := Lib.hid (slB_up HW8.out hb9)
    have HC9 := Lib.hid (equal_any w9 HTC9.out ht9)
    have s1 := slB_string HW9.out c6
    have s2 := slB_string HV9.out d'
    clear ht9 hb9 HC8
    go_wp2_with fail
    refine HC9.out.mono ?_
    rintro e w10 ⟨rfl, hb10⟩
    have H310 := Lib.hid (H39.out.trans (hb10.mono H39.out.size))
    have HT10 := Lib.hid (HT9.out.next hb10)
    have HTU10 := Lib.hid (HTU9.out.next hb10)
    have HTC10 := Lib.hid (HTC9.out.next hb10)
    have HK10 := Lib.hid (slB_up HK9.out hb10)
    have HV10 := Lib.hid (slB_up HV9.out hb10)
    have HA10 := Lib.hid (slB_up HA9.out hb10)
    have HW10 := Lib.hid (slB_up HW9.out hb10)
    clear hb10 HC9 s1 s2
    go_wp2_with fail
    go_loopg [113] n (fun gk i wr => ∃ (j : Nat), i = .int .i64 (j : Nat) ∧ j + gk = n ∧ Hid (Below w10.heap.size w10 wr))
    case atStart => exact ⟨0, rfl, by omega, Below.refl _ _⟩
    case round =>
      obtain ⟨j, rfl, hj, HB⟩ := hrel
      cases gk with
      | zero =>
        have hjz : ¬ ((j : Int) < (n : Int)) := by omega
        have hjz' : decide ((j : Int) < (n : Int)) = false := decide_eq_false hjz
        have HC := Lib.hid (getM_any B d key wr (HT10.out.next HB.out) (slB_up HK10.out HB.out))
        rw [HO.out, HE0.out] at HC
        go_wp2_with fail
        refine HC.out.mono ?_
        rintro e wx ⟨Ax, cx, rfl, hox, hbx⟩
        have HBX := Lib.hid (HB.out.trans (hbx.mono HB.out.size))
        have s1 := slB_string (SlB.of_own hox).2 cx
        have s2 := slB_string (slB_up HA10.out HBX.out) c4
        have HLA := Lib.hid (len_any wx (HT10.out.next HBX.out))
        have HLU := Lib.hid (len_any wx (HTU10.out.next HBX.out))
        rw [HNN.out] at HLA
        rw [HG5.out y0 HGL0.out] at HLU
        have HF : Hid (OrdEnd w (.returned (.bool true)) wx) := ⟨rfl, HB3.out.trans ((H310.out.trans (HBX.out.mono H310.out.size)).mono HB3.out.size)⟩
        clear hox hbx HC
        go_wp2_with fail
        refine HLA.out.mono ?_
        rintro e w' ⟨rfl, rfl⟩
        go_wp2_with fail
        refine HLU.out.mono ?_
        rintro e w' ⟨rfl, rfl⟩
        clear s1 s2 HLA HLU
        have hwn : IntKind.i64.wrap ((n : Int) + 1) = (n : Int) + 1 := IntWalk.i64_in _ (by omega)
        have hwm : IntKind.i64.wrap (n : Int) = (n : Int) := IntWalk.i64_in _ (by omega)
        go_wp2
        go_ret
        exact HF.out
      | succ gk =>
        have hjz : ((j : Int) < (n : Int)) := by omega
        have hjz' : decide ((j : Int) < (n : Int)) = true := decide_eq_true hjz
        have hjn : j < n := by omega
        have hj0 : (0 : Int) ≤ (j : Int) := by omega
        obtain ⟨p, hp⟩ : ∃ p, L[j]? = some p := ⟨_, List.getElem?_eq_getElem (by rw [HNN.out]; exact hjn)⟩
        have HMP := Lib.hid (List.mem_of_getElem? hp)
        obtain ⟨a0, H1, k1, H2, k2, rfl, hgl, hc1, hc2, hs1, hs2⟩ := HO3.out.pair HQ3.out (i := j) hp
        have HC1 := Lib.hid hc1
        have HC2 := Lib.hid hc2
        have HGL := Lib.hid hgl
        have HK1 := Lib.hid hs1
        have HK2 := Lib.hid hs2
        have H3r := Lib.hid (H310.out.trans (HB.out.mono H310.out.size))
        have HCA := Lib.hid (getM_any H1 k1 p.1 wr (HT10.out.next HB.out) (slB_up hs1 H3r.out))
        rw [get_self HR.out HMP.out, Option.getD_some, Option.isSome_some] at HCA
        have q0 : wr.cell? ⟨a0, j * 2, none⟩ = some (.slice H1 p.1.length k1) := (H3r.out.cell (p := ⟨a0, j * 2, none⟩) hgl).trans hc1
        clear hp hgl hc1 hc2 hs1 hs2
        go_wp2_with fail
        refine HCA.out.mono ?_
        rintro e wy ⟨Ay, cy, rfl, hoy, hby⟩
        have HAY := Lib.hid (SlB.of_own hoy).2
        have HBY := Lib.hid (HB.out.trans (hby.mono HB.out.size))
        have H3y := Lib.hid (H310.out.trans (HBY.out.mono H310.out.size))
        have HCB := Lib.hid (getM_any H1 k1 p.1 wy (HTU10.out.next HBY.out) (slB_up HK1.out H3y.out))
        have q1 : wy.cell? ⟨a0, j * 2, none⟩ = some (.slice H1 p.1.length k1) := (H3y.out.cell (p := ⟨a0, j * 2, none⟩) HGL.out).trans HC1.out
        clear hoy hby HCA q0
        by_cases gq : p.1 = key
        · have hke : (p.1 == key) = true := by rw [gq]; exact beq_self_eq_true _
          have hgq : getL L2 p.1 = some val := by rw [gq]; exact HG1.out
          rw [hgq, Option.getD_some, Option.isSome_some] at HCB
          have hstr : (⟨p.1.toArray⟩ : ByteArray) = ⟨key.toArray⟩ := by rw [gq]
          clear hgq
          clear gq
          go_wp2_with fail
          refine HCB.out.mono ?_
          rintro e wz ⟨Az, cz, rfl, hoz, hbz⟩
          have HAZ := Lib.hid (SlB.of_own hoz).2
          have HAY2 := Lib.hid (slB_up HAY.out hbz)
          have HBZ := Lib.hid (HBY.out.trans (hbz.mono HBY.out.size))
          have H3z := Lib.hid (H310.out.trans (HBZ.out.mono H310.out.size))
          have HU := Lib.hid (fun X (hX : Below wz.heap.size wz X) => H3z.out.trans (hX.mono H3z.out.size))
          have HS1 := Lib.hid (fun X (hX : Below wz.heap.size wz X) => slB_string (slB_up HK1.out (HU.out X hX)) k1)
          have HS2 := Lib.hid (fun X (hX : Below wz.heap.size wz X) => slB_string (slB_up HK2.out (HU.out X hX)) k2)
          have HSK := Lib.hid (fun X (hX : Below wz.heap.size wz X) => slB_string (slB_up HK10.out (HBZ.out.trans (hX.mono HBZ.out.size))) d)
          have HSY := Lib.hid (fun X (hX : Below wz.heap.size wz X) => slB_string (slB_up HAY2.out hX) cy)
          have HSZ := Lib.hid (fun X (hX : Below wz.heap.size wz X) => slB_string (slB_up HAZ.out hX) cz)
          clear hoz hbz HCB q1
          go_wp2_with fail
          have HS0 := Lib.hid (qb_dn (Below.refl wz.heap.size wz) 1)
          obtain ⟨we, hwe⟩ : ∃ X, wz.drew = X := ⟨_, rfl⟩
          refine wp_region_held_drew (S := fun X => Below wz.heap.size wz X) (by kernel_rfl) HS0.out (fun hHeld => ?_)
          rw [hwe] at hHeld ⊢
          clear hwe HS0
          refine takeV 0 (some 136) ((.bool true)) rfl rfl (by kernel_rfl) (by kernel_rfl) (by kernel_rfl) (fun _ _ _ h => h) (by rfl) (by (intro _w _hSw; (try dsimp only at _hSw); go_simp)) (by assumption) ?_
          simp only [Act.put, List.setIfInBounds_toArray, List.set_cons_zero, List.set_cons_succ]
          refine takeV 1 (some 137) ((.bool false)) rfl rfl (by kernel_rfl) (by kernel_rfl) (by kernel_rfl) (fun _ _ _ h => h) (by rfl) (by (intro _w _hSw; (try dsimp only at _hSw); go_simp)) (by assumption) ?_
          simp only [Act.put, List.setIfInBounds_toArray, List.set_cons_zero, List.set_cons_succ]
          refine takeV 2 (some 138) ((.bool false)) rfl rfl (by kernel_rfl) (by kernel_rfl) (by kernel_rfl) (fun _ _ _ h => h) (by rfl) (by (intro _w _hSw; (try dsimp only at _hSw); go_simp)) (by assumption) ?_
          simp only [Act.put, List.setIfInBounds_toArray, List.set_cons_zero, List.set_cons_succ]
          refine takeV 3 (some 139) ((.bool true)) rfl rfl (by kernel_rfl) (by kernel_rfl) (by kernel_rfl) (fun _ _ _ h => h) (by rfl) (by (intro _w _hSw; (try dsimp only at _hSw); go_simp)) (by assumption) ?_
          simp only [Act.put, List.setIfInBounds_toArray, List.set_cons_zero, List.set_cons_succ]
          refine takeV 4 (some 140) ((.bool false)) rfl rfl (by kernel_rfl) (by kernel_rfl) (by kernel_rfl) (fun _ _ _ h => h) (by rfl) (by (intro _w _hSw; (try dsimp only at _hSw); go_simp)) (by assumption) ?_
          simp only [Act.put, List.setIfInBounds_toArray, List.set_cons_zero, List.set_cons_succ]
          refine takeV 5 (some 141) ((.bool false)) rfl rfl (by kernel_rfl) (by kernel_rfl) (by kernel_rfl) (fun _ _ _ h => h) (by rfl) (by (intro _w _hSw; (try dsimp only at _hSw); go_simp)) (by assumption) ?_
          simp only [Act.put, List.setIfInBounds_toArray, List.set_cons_zero, List.set_cons_succ]
          refine takeV 6 (some 142) ((.bool false)) rfl rfl (by kernel_rfl) (by kernel_rfl) (by kernel_rfl) (fun _ _ _ h => h) (by rfl) (by (intro _w _hSw; (try dsimp only at _hSw); go_simp)) (by assumption) ?_
          simp only [Act.put, List.setIfInBounds_toArray, List.set_cons_zero, List.set_cons_succ]
          refine takeV 7 (some 143) ((.slice Ay p.2.length cy)) rfl rfl (by kernel_rfl) (by kernel_rfl) (by kernel_rfl) (fun _ _ _ h => h) (by rfl) (by (intro _w _hSw; (try dsimp only at _hSw); go_simp)) (by assumption) ?_
          simp only [Act.put, List.setIfInBounds_toArray, List.set_cons_zero, List.set_cons_succ]
          refine takeV 8 (some 144) ((.string ⟨p.2.toArray⟩)) rfl rfl (by kernel_rfl) (by kernel_rfl) (by kernel_rfl) (fun _ _ _ h => h) (by rfl) (by (intro _w hSw; have q0 := HSY.out _w hSw; clear hSw; go_simp)) (by assumption) ?_
          simp only [Act.put, List.setIfInBounds_toArray, List.set_cons_zero, List.set_cons_succ]
          refine takeV 9 (some 145) ((.slice (some ⟨a0, 0, none⟩) n c3)) rfl rfl (by kernel_rfl) (by kernel_rfl) (by kernel_rfl) (fun _ _ _ h => h) (by rfl) (by (intro _w _hSw; (try dsimp only at _hSw); go_simp)) (by assumption) ?_
          simp only [Act.put, List.setIfInBounds_toArray, List.set_cons_zero, List.set_cons_succ]
          refine takeV 10 (some 146) ((.int .i64 (j : Nat))) rfl rfl (by kernel_rfl) (by kernel_rfl) (by kernel_rfl) (fun _ _ _ h => h) (by rfl) (by (intro _w _hSw; (try dsimp only at _hSw); go_simp)) (by assumption) ?_
          simp only [Act.put, List.setIfInBounds_toArray, List.set_cons_zero, List.set_cons_succ]
          refine takeV 11 (some 147) ((.pointer (some ⟨a0, j * 2, none⟩))) rfl rfl (by kernel_rfl) (by kernel_rfl) (by kernel_rfl) (fun _ _ _ h => h) (by rfl) (by (intro _w _hSw; (try dsimp only at _hSw); go_simp)) (by assumption) ?_
          simp only [Act.put, List.setIfInBounds_toArray, List.set_cons_zero, List.set_cons_succ]
          refine takeV 12 (some 148) ((.pointer (some ⟨a0, j * 2 + 1, none⟩))) rfl rfl (by kernel_rfl) (by kernel_rfl) (by kernel_rfl) (fun _ _ _ h => h) (by rfl) (by (intro _w _hSw; (try dsimp only at _hSw); go_simp)) (by assumption) ?_
          simp only [Act.put, List.setIfInBounds_toArray, List.set_cons_zero, List.set_cons_succ]
          refine takeV 13 (some 149) ((.slice H2 p.2.length k2)) rfl rfl (by kernel_rfl) (by kernel_rfl) (by kernel_rfl) (fun _ _ _ h => h) (by rfl) (by (intro _w hSw; have q0 := ((HU.out _w hSw).cell (p := ⟨a0, j * 2 + 1, none⟩) HGL.out).trans HC2.out; clear hSw; go_simp)) (by assumption) ?_
          simp only [Act.put, List.setIfInBounds_toArray, List.set_cons_zero, List.set_cons_succ]
          refine takeV 14 (some 150) ((.string ⟨p.2.toArray⟩)) rfl rfl (by kernel_rfl) (by kernel_rfl) (by kernel_rfl) (fun _ _ _ h => h) (by rfl) (by (intro _w hSw; have q0 := HS2.out _w hSw; clear hSw; go_simp)) (by assumption) ?_
          simp only [Act.put, List.setIfInBounds_toArray, List.set_cons_zero, List.set_cons_succ]
          refine takeV 15 (some 151) ((.bool false)) rfl rfl (by kernel_rfl) (by kernel_rfl) (by kernel_rfl) (fun _ _ _ h => h) (by rfl) (by (intro _w _hSw; (try dsimp only at _hSw); go_simp)) (by assumption) ?_
          simp only [Act.put, List.setIfInBounds_toArray, List.set_cons_zero, List.set_cons_succ]
          refine takeV 16 (some 152) ((.bool false)) rfl rfl (by kernel_rfl) (by kernel_rfl) (by kernel_rfl) (fun _ _ _ h => h) (by rfl) (by (intro _w _hSw; (try dsimp only at _hSw); go_simp)) (by assumption) ?_
          simp only [Act.put, List.setIfInBounds_toArray, List.set_cons_zero, List.set_cons_succ]
          refine takeV 17 (some 153) ((.bool false)) rfl rfl (by kernel_rfl) (by kernel_rfl) (by kernel_rfl) (fun _ _ _ h => h) (by rfl) (by (intro _w _hSw; (try dsimp only at _hSw); go_simp)) (by assumption) ?_
          simp only [Act.put, List.setIfInBounds_toArray, List.set_cons_zero, List.set_cons_succ]
          refine takeV 18 (some 154) ((.slice (some ⟨a0, 0, none⟩) n c3)) rfl rfl (by kernel_rfl) (by kernel_rfl) (by kernel_rfl) (fun _ _ _ h => h) (by rfl) (by (intro _w _hSw; (try dsimp only at _hSw); go_simp)) (by assumption) ?_
          simp only [Act.put, List.setIfInBounds_toArray, List.set_cons_zero, List.set_cons_succ]
          refine takeV 19 (some 155) ((.int .i64 (j : Nat))) rfl rfl (by kernel_rfl) (by kernel_rfl) (by kernel_rfl) (fun _ _ _ h => h) (by rfl) (by (intro _w _hSw; (try dsimp only at _hSw); go_simp)) (by assumption) ?_
          simp only [Act.put, List.setIfInBounds_toArray, List.set_cons_zero, List.set_cons_succ]
          refine takeV 20 (some 156) ((.pointer (some ⟨a0, j * 2, none⟩))) rfl rfl (by kernel_rfl) (by kernel_rfl) (by kernel_rfl) (fun _ _ _ h => h) (by rfl) (by (intro _w _hSw; (try dsimp only at _hSw); go_simp)) (by assumption) ?_
          simp only [Act.put, List.setIfInBounds_toArray, List.set_cons_zero, List.set_cons_succ]
          refine takeV 21 (some 157) ((.pointer (some ⟨a0, j * 2, none⟩))) rfl rfl (by kernel_rfl) (by kernel_rfl) (by kernel_rfl) (fun _ _ _ h => h) (by rfl) (by (intro _w _hSw; (try dsimp only at _hSw); go_simp)) (by assumption) ?_
          simp only [Act.put, List.setIfInBounds_toArray, List.set_cons_zero, List.set_cons_succ]
          refine takeV 22 (some 158) ((.slice H1 p.1.length k1)) rfl rfl (by kernel_rfl) (by kernel_rfl) (by kernel_rfl) (fun _ _ _ h => h) (by rfl) (by (intro _w hSw; have q0 := ((HU.out _w hSw).cell (p := ⟨a0, j * 2, none⟩) HGL.out).trans HC1.out; clear hSw; go_simp)) (by assumption) ?_
          simp only [Act.put, List.setIfInBounds_toArray, List.set_cons_zero, List.set_cons_succ]
          refine takeV 23 (some 159) ((.string ⟨p.1.toArray⟩)) rfl rfl (by kernel_rfl) (by kernel_rfl) (by kernel_rfl) (fun _ _ _ h => h) (by rfl) (by (intro _w hSw; have q0 := HS1.out _w hSw; clear hSw; go_simp)) (by assumption) ?_
          simp only [Act.put, List.setIfInBounds_toArray, List.set_cons_zero, List.set_cons_succ]
          refine takeV 24 (some 160) ((.slice B key.length d)) rfl rfl (by kernel_rfl) (by kernel_rfl) (by kernel_rfl) (fun _ _ _ h => h) (by rfl) (by (intro _w _hSw; (try dsimp only at _hSw); go_simp)) (by assumption) ?_
          simp only [Act.put, List.setIfInBounds_toArray, List.set_cons_zero, List.set_cons_succ]
          refine takeV 25 (some 161) ((.string ⟨key.toArray⟩)) rfl rfl (by kernel_rfl) (by kernel_rfl) (by kernel_rfl) (fun _ _ _ h => h) (by rfl) (by (intro _w hSw; have q0 := HSK.out _w hSw; clear hSw; go_simp)) (by assumption) ?_
          simp only [Act.put, List.setIfInBounds_toArray, List.set_cons_zero, List.set_cons_succ]
          refine takeV 26 (some 162) ((.bool false)) rfl rfl (by kernel_rfl) (by kernel_rfl) (by kernel_rfl) (fun _ _ _ h => h) (by rfl) (by (intro _w _hSw; (try dsimp only at _hSw); go_simp)) (by assumption) ?_
          simp only [Act.put, List.setIfInBounds_toArray, List.set_cons_zero, List.set_cons_succ]
          refine takeV 27 (some 163) ((.bool false)) rfl rfl (by kernel_rfl) (by kernel_rfl) (by kernel_rfl) (fun _ _ _ h => h) (by rfl) (by (intro _w _hSw; (try dsimp only at _hSw); go_simp)) (by assumption) ?_
          simp only [Act.put, List.setIfInBounds_toArray, List.set_cons_zero, List.set_cons_succ]
          refine skipV 28 (some 164) rfl rfl (by kernel_rfl) (by kernel_rfl) (by kernel_rfl) (fun _ _ _ h => h) (by rfl) (by assumption) ?_
          simp only [Act.put, List.setIfInBounds_toArray, List.set_cons_zero, List.set_cons_succ]
          refine skipV 29 (some 165) rfl rfl (by kernel_rfl) (by kernel_rfl) (by kernel_rfl) (fun _ _ _ h => h) (by rfl) (by assumption) ?_
          simp only [Act.put, List.setIfInBounds_toArray, List.set_cons_zero, List.set_cons_succ]
          refine skipV 30 (some 166) rfl rfl (by kernel_rfl) (by kernel_rfl) (by kernel_rfl) (fun _ _ _ h => h) (by rfl) (by assumption) ?_
          simp only [Act.put, List.setIfInBounds_toArray, List.set_cons_zero, List.set_cons_succ]
          refine skipV 31 (some 167) rfl rfl (by kernel_rfl) (by kernel_rfl) (by kernel_rfl) (fun _ _ _ h => h) (by rfl) (by assumption) ?_
          simp only [Act.put, List.setIfInBounds_toArray, List.set_cons_zero, List.set_cons_succ]
          refine skipV 32 (some 168) rfl rfl (by kernel_rfl) (by kernel_rfl) (by kernel_rfl) (fun _ _ _ h => h) (by rfl) (by assumption) ?_
          simp only [Act.put, List.setIfInBounds_toArray, List.set_cons_zero, List.set_cons_succ]
          refine takeV 33 (some 169) ((.bool false)) rfl rfl (by kernel_rfl) (by kernel_rfl) (by kernel_rfl) (fun _ _ _ h => h) (by rfl) (by (intro _w _hSw; (try dsimp only at _hSw); go_simp)) (by assumption) ?_
          simp only [Act.put, List.setIfInBounds_toArray, List.set_cons_zero, List.set_cons_succ]
          refine takeV 34 (some 170) ((.bool false)) rfl rfl (by kernel_rfl) (by kernel_rfl) (by kernel_rfl) (fun _ _ _ h => h) (by rfl) (by (intro _w _hSw; (try dsimp only at _hSw); go_simp)) (by assumption) ?_
          simp only [Act.put, List.setIfInBounds_toArray, List.set_cons_zero, List.set_cons_succ]
          refine wpAnyH_done (by kernel_rfl) ?_ _
          have HBR := Lib.hid (HBZ.out.trans (hHeld.mono HBZ.out.size))
          clear hHeld
          go_wp2
          go_roundg gk
          case measure => omega
          case rel => exact ⟨j + 1, by go_num, by omega, HBR.out⟩
        · have hke : (p.1 == key) = false := beq_eq_false_iff_ne.2 gq
          rw [HG3.out p HMP.out gq, Option.getD_some, Option.isSome_some] at HCB
          clear gq
          go_wp2_with fail
          refine HCB.out.mono ?_
          rintro e wz ⟨Az, cz, rfl, hoz, hbz⟩
          have HAZ := Lib.hid (SlB.of_own hoz).2
          have HAY2 := Lib.hid (slB_up HAY.out hbz)
          have HBZ := Lib.hid (HBY.out.trans (hbz.mono HBY.out.size))
          have H3z := Lib.hid (H310.out.trans (HBZ.out.mono H310.out.size))
          have HU := Lib.hid (fun X (hX : Below wz.heap.size wz X) => H3z.out.trans (hX.mono H3z.out.size))
          have HS1 := Lib.hid (fun X (hX : Below wz.heap.size wz X) => slB_string (slB_up HK1.out (HU.out X hX)) k1)
          have HS2 := Lib.hid (fun X (hX : Below wz.heap.size wz X) => slB_string (slB_up HK2.out (HU.out X hX)) k2)
          have HSK := Lib.hid (fun X (hX : Below wz.heap.size wz X) => slB_string (slB_up HK10.out (HBZ.out.trans (hX.mono HBZ.out.size))) d)
          have HSY := Lib.hid (fun X (hX : Below wz.heap.size wz X) => slB_string (slB_up HAY2.out hX) cy)
          have HSZ := Lib.hid (fun X (hX : Below wz.heap.size wz X) => slB_string (slB_up HAZ.out hX) cz)
          clear hoz hbz HCB q1
          go_wp2_with fail
          have HS0 := Lib.hid (qb_dn (Below.refl wz.heap.size wz) 1)
          obtain ⟨we, hwe⟩ : ∃ X, wz.drew = X := ⟨_, rfl⟩
          refine wp_region_held_drew (S := fun X => Below wz.heap.size wz X) (by kernel_rfl) HS0.out (fun hHeld => ?_)
          rw [hwe] at hHeld ⊢
          clear hwe HS0
          refine takeV 0 (some 136) ((.bool true)) rfl rfl (by kernel_rfl) (by kernel_rfl) (by kernel_rfl) (fun _ _ _ h => h) (by rfl) (by (intro _w _hSw; (try dsimp only at _hSw); go_simp)) (by assumption) ?_
          simp only [Act.put, List.setIfInBounds_toArray, List.set_cons_zero, List.set_cons_succ]
          refine takeV 1 (some 137) ((.bool false)) rfl rfl (by kernel_rfl) (by kernel_rfl) (by kernel_rfl) (fun _ _ _ h => h) (by rfl) (by (intro _w _hSw; (try dsimp only at _hSw); go_simp)) (by assumption) ?_
          simp only [Act.put, List.setIfInBounds_toArray, List.set_cons_zero, List.set_cons_succ]
          refine takeV 2 (some 138) ((.bool false)) rfl rfl (by kernel_rfl) (by kernel_rfl) (by kernel_rfl) (fun _ _ _ h => h) (by rfl) (by (intro _w _hSw; (try dsimp only at _hSw); go_simp)) (by assumption) ?_
          simp only [Act.put, List.setIfInBounds_toArray, List.set_cons_zero, List.set_cons_succ]
          refine takeV 3 (some 139) ((.bool true)) rfl rfl (by kernel_rfl) (by kernel_rfl) (by kernel_rfl) (fun _ _ _ h => h) (by rfl) (by (intro _w _hSw; (try dsimp only at _hSw); go_simp)) (by assumption) ?_
          simp only [Act.put, List.setIfInBounds_toArray, List.set_cons_zero, List.set_cons_succ]
          refine takeV 4 (some 140) ((.bool false)) rfl rfl (by kernel_rfl) (by kernel_rfl) (by kernel_rfl) (fun _ _ _ h => h) (by rfl) (by (intro _w _hSw; (try dsimp only at _hSw); go_simp)) (by assumption) ?_
          simp only [Act.put, List.setIfInBounds_toArray, List.set_cons_zero, List.set_cons_succ]
          refine takeV 5 (some 141) ((.bool false)) rfl rfl (by kernel_rfl) (by kernel_rfl) (by kernel_rfl) (fun _ _ _ h => h) (by rfl) (by (intro _w _hSw; (try dsimp only at _hSw); go_simp)) (by assumption) ?_
          simp only [Act.put, List.setIfInBounds_toArray, List.set_cons_zero, List.set_cons_succ]
          refine takeV 6 (some 142) ((.bool false)) rfl rfl (by kernel_rfl) (by kernel_rfl) (by kernel_rfl) (fun _ _ _ h => h) (by rfl) (by (intro _w _hSw; (try dsimp only at _hSw); go_simp)) (by assumption) ?_
          simp only [Act.put, List.setIfInBounds_toArray, List.set_cons_zero, List.set_cons_succ]
          refine takeV 7 (some 143) ((.slice Ay p.2.length cy)) rfl rfl (by kernel_rfl) (by kernel_rfl) (by kernel_rfl) (fun _ _ _ h => h) (by rfl) (by (intro _w _hSw; (try dsimp only at _hSw); go_simp)) (by assumption) ?_
          simp only [Act.put, List.setIfInBounds_toArray, List.set_cons_zero, List.set_cons_succ]
          refine takeV 8 (some 144) ((.string ⟨p.2.toArray⟩)) rfl rfl (by kernel_rfl) (by kernel_rfl) (by kernel_rfl) (fun _ _ _ h => h) (by rfl) (by (intro _w hSw; have q0 := HSY.out _w hSw; clear hSw; go_simp)) (by assumption) ?_
          simp only [Act.put, List.setIfInBounds_toArray, List.set_cons_zero, List.set_cons_succ]
          refine takeV 9 (some 145) ((.slice (some ⟨a0, 0, none⟩) n c3)) rfl rfl (by kernel_rfl) (by kernel_rfl) (by kernel_rfl) (fun _ _ _ h => h) (by rfl) (by (intro _w _hSw; (try dsimp only at _hSw); go_simp)) (by assumption) ?_
          simp only [Act.put, List.setIfInBounds_toArray, List.set_cons_zero, List.set_cons_succ]
          refine takeV 10 (some 146) ((.int .i64 (j : Nat))) rfl rfl (by kernel_rfl) (by kernel_rfl) (by kernel_rfl) (fun _ _ _ h => h) (by rfl) (by (intro _w _hSw; (try dsimp only at _hSw); go_simp)) (by assumption) ?_
          simp only [Act.put, List.setIfInBounds_toArray, List.set_cons_zero, List.set_cons_succ]
          refine takeV 11 (some 147) ((.pointer (some ⟨a0, j * 2, none⟩))) rfl rfl (by kernel_rfl) (by kernel_rfl) (by kernel_rfl) (fun _ _ _ h => h) (by rfl) (by (intro _w _hSw; (try dsimp only at _hSw); go_simp)) (by assumption) ?_
          simp only [Act.put, List.setIfInBounds_toArray, List.set_cons_zero, List.set_cons_succ]
          refine takeV 12 (some 148) ((.pointer (some ⟨a0, j * 2 + 1, none⟩))) rfl rfl (by kernel_rfl) (by kernel_rfl) (by kernel_rfl) (fun _ _ _ h => h) (by rfl) (by (intro _w _hSw; (try dsimp only at _hSw); go_simp)) (by assumption) ?_
          simp only [Act.put, List.setIfInBounds_toArray, List.set_cons_zero, List.set_cons_succ]
          refine takeV 13 (some 149) ((.slice H2 p.2.length k2)) rfl rfl (by kernel_rfl) (by kernel_rfl) (by kernel_rfl) (fun _ _ _ h => h) (by rfl) (by (intro _w hSw; have q0 := ((HU.out _w hSw).cell (p := ⟨a0, j * 2 + 1, none⟩) HGL.out).trans HC2.out; clear hSw; go_simp)) (by assumption) ?_
          simp only [Act.put, List.setIfInBounds_toArray, List.set_cons_zero, List.set_cons_succ]
          refine takeV 14 (some 150) ((.string ⟨p.2.toArray⟩)) rfl rfl (by kernel_rfl) (by kernel_rfl) (by kernel_rfl) (fun _ _ _ h => h) (by rfl) (by (intro _w hSw; have q0 := HS2.out _w hSw; clear hSw; go_simp)) (by assumption) ?_
          simp only [Act.put, List.setIfInBounds_toArray, List.set_cons_zero, List.set_cons_succ]
          refine takeV 15 (some 151) ((.bool false)) rfl rfl (by kernel_rfl) (by kernel_rfl) (by kernel_rfl) (fun _ _ _ h => h) (by rfl) (by (intro _w _hSw; (try dsimp only at _hSw); go_simp)) (by assumption) ?_
          simp only [Act.put, List.setIfInBounds_toArray, List.set_cons_zero, List.set_cons_succ]
          refine takeV 16 (some 152) ((.bool false)) rfl rfl (by kernel_rfl) (by kernel_rfl) (by kernel_rfl) (fun _ _ _ h => h) (by rfl) (by (intro _w _hSw; (try dsimp only at _hSw); go_simp)) (by assumption) ?_
          simp only [Act.put, List.setIfInBounds_toArray, List.set_cons_zero, List.set_cons_succ]
          refine takeV 17 (some 153) ((.bool false)) rfl rfl (by kernel_rfl) (by kernel_rfl) (by kernel_rfl) (fun _ _ _ h => h) (by rfl) (by (intro _w _hSw; (try dsimp only at _hSw); go_simp)) (by assumption) ?_
          simp only [Act.put, List.setIfInBounds_toArray, List.set_cons_zero, List.set_cons_succ]
          refine takeV 18 (some 154) ((.slice (some ⟨a0, 0, none⟩) n c3)) rfl rfl (by kernel_rfl) (by kernel_rfl) (by kernel_rfl) (fun _ _ _ h => h) (by rfl) (by (intro _w _hSw; (try dsimp only at _hSw); go_simp)) (by assumption) ?_
          simp only [Act.put, List.setIfInBounds_toArray, List.set_cons_zero, List.set_cons_succ]
          refine takeV 19 (some 155) ((.int .i64 (j : Nat))) rfl rfl (by kernel_rfl) (by kernel_rfl) (by kernel_rfl) (fun _ _ _ h => h) (by rfl) (by (intro _w _hSw; (try dsimp only at _hSw); go_simp)) (by assumption) ?_
          simp only [Act.put, List.setIfInBounds_toArray, List.set_cons_zero, List.set_cons_succ]
          refine takeV 20 (some 156) ((.pointer (some ⟨a0, j * 2, none⟩))) rfl rfl (by kernel_rfl) (by kernel_rfl) (by kernel_rfl) (fun _ _ _ h => h) (by rfl) (by (intro _w _hSw; (try dsimp only at _hSw); go_simp)) (by assumption) ?_
          simp only [Act.put, List.setIfInBounds_toArray, List.set_cons_zero, List.set_cons_succ]
          refine takeV 21 (some 157) ((.pointer (some ⟨a0, j * 2, none⟩))) rfl rfl (by kernel_rfl) (by kernel_rfl) (by kernel_rfl) (fun _ _ _ h => h) (by rfl) (by (intro _w _hSw; (try dsimp only at _hSw); go_simp)) (by assumption) ?_
          simp only [Act.put, List.setIfInBounds_toArray, List.set_cons_zero, List.set_cons_succ]
          refine takeV 22 (some 158) ((.slice H1 p.1.length k1)) rfl rfl (by kernel_rfl) (by kernel_rfl) (by kernel_rfl) (fun _ _ _ h => h) (by rfl) (by (intro _w hSw; have q0 := ((HU.out _w hSw).cell (p := ⟨a0, j * 2, none⟩) HGL.out).trans HC1.out; clear hSw; go_simp)) (by assumption) ?_
          simp only [Act.put, List.setIfInBounds_toArray, List.set_cons_zero, List.set_cons_succ]
          refine takeV 23 (some 159) ((.string ⟨p.1.toArray⟩)) rfl rfl (by kernel_rfl) (by kernel_rfl) (by kernel_rfl) (fun _ _ _ h => h) (by rfl) (by (intro _w hSw; have q0 := HS1.out _w hSw; clear hSw; go_simp)) (by assumption) ?_
          simp only [Act.put, List.setIfInBounds_toArray, List.set_cons_zero, List.set_cons_succ]
          refine takeV 24 (some 160) ((.slice B key.length d)) rfl rfl (by kernel_rfl) (by kernel_rfl) (by kernel_rfl) (fun _ _ _ h => h) (by rfl) (by (intro _w _hSw; (try dsimp only at _hSw); go_simp)) (by assumption) ?_
          simp only [Act.put, List.setIfInBounds_toArray, List.set_cons_zero, List.set_cons_succ]
          refine takeV 25 (some 161) ((.string ⟨key.toArray⟩)) rfl rfl (by kernel_rfl) (by kernel_rfl) (by kernel_rfl) (fun _ _ _ h => h) (by rfl) (by (intro _w hSw; have q0 := HSK.out _w hSw; clear hSw; go_simp)) (by assumption) ?_
          simp only [Act.put, List.setIfInBounds_toArray, List.set_cons_zero, List.set_cons_succ]
          refine takeV 26 (some 162) ((.bool true)) rfl rfl (by kernel_rfl) (by kernel_rfl) (by kernel_rfl) (fun _ _ _ h => h) (by rfl) (by (intro _w _hSw; (try dsimp only at _hSw); go_simp)) (by assumption) ?_
          simp only [Act.put, List.setIfInBounds_toArray, List.set_cons_zero, List.set_cons_succ]
          refine takeV 27 (some 163) ((.bool true)) rfl rfl (by kernel_rfl) (by kernel_rfl) (by kernel_rfl) (fun _ _ _ h => h) (by rfl) (by (intro _w _hSw; (try dsimp only at _hSw); go_simp)) (by assumption) ?_
          simp only [Act.put, List.setIfInBounds_toArray, List.set_cons_zero, List.set_cons_succ]
          refine takeV 28 (some 164) ((.slice Az p.2.length cz)) rfl rfl (by kernel_rfl) (by kernel_rfl) (by kernel_rfl) (fun _ _ _ h => h) (by rfl) (by (intro _w _hSw; (try dsimp only at _hSw); go_simp)) (by assumption) ?_
          simp only [Act.put, List.setIfInBounds_toArray, List.set_cons_zero, List.set_cons_succ]
          refine takeV 29 (some 165) ((.string ⟨p.2.toArray⟩)) rfl rfl (by kernel_rfl) (by kernel_rfl) (by kernel_rfl) (fun _ _ _ h => h) (by rfl) (by (intro _w hSw; have q0 := HSZ.out _w hSw; clear hSw; go_simp)) (by assumption) ?_
          simp only [Act.put, List.setIfInBounds_toArray, List.set_cons_zero, List.set_cons_succ]
          refine takeV 30 (some 166) ((.slice Ay p.2.length cy)) rfl rfl (by kernel_rfl) (by kernel_rfl) (by kernel_rfl) (fun _ _ _ h => h) (by rfl) (by (intro _w _hSw; (try dsimp only at _hSw); go_simp)) (by assumption) ?_
          simp only [Act.put, List.setIfInBounds_toArray, List.set_cons_zero, List.set_cons_succ]
          refine takeV 31 (some 167) ((.string ⟨p.2.toArray⟩)) rfl rfl (by kernel_rfl) (by kernel_rfl) (by kernel_rfl) (fun _ _ _ h => h) (by rfl) (by (intro _w hSw; have q0 := HSY.out _w hSw; clear hSw; go_simp)) (by assumption) ?_
          simp only [Act.put, List.setIfInBounds_toArray, List.set_cons_zero, List.set_cons_succ]
          refine takeV 32 (some 168) ((.bool false)) rfl rfl (by kernel_rfl) (by kernel_rfl) (by kernel_rfl) (fun _ _ _ h => h) (by rfl) (by (intro _w _hSw; (try dsimp only at _hSw); go_simp)) (by assumption) ?_
          simp only [Act.put, List.setIfInBounds_toArray, List.set_cons_zero, List.set_cons_succ]
          refine takeV 33 (some 169) ((.bool false)) rfl rfl (by kernel_rfl) (by kernel_rfl) (by kernel_rfl) (fun _ _ _ h => h) (by rfl) (by (intro _w _hSw; (try dsimp only at _hSw); go_simp)) (by assumption) ?_
          simp only [Act.put, List.setIfInBounds_toArray, List.set_cons_zero, List.set_cons_succ]
          refine takeV 34 (some 170) ((.bool false)) rfl rfl (by kernel_rfl) (by kernel_rfl) (by kernel_rfl) (fun _ _ _ h => h) (by rfl) (by (intro _w _hSw; (try dsimp only at _hSw); go_simp)) (by assumption) ?_
          simp only [Act.put, List.setIfInBounds_toArray, List.set_cons_zero, List.set_cons_succ]
          refine wpAnyH_done (by kernel_rfl) ?_ _
          have HBR := Lib.hid (HBZ.out.trans (hHeld.mono HBZ.out.size))
          clear hHeld
          go_wp2
          go_roundg gk
          case measure => omega
          case rel => exact ⟨j + 1, by go_num, by omega, HBR.out⟩
end Go.Proofs.Ythldmdcjfeekeaa
