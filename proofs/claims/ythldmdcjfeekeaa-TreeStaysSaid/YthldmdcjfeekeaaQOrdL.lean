/-
  THE LAW TreeOrder.
-/
import Derived.Test.YthldmdcjfeekeaaQEqu
namespace Go.Proofs.Ythldmdcjfeekeaa
open Go.RowKit

def OrdEnd (w : World) (e : Ending) (w' : World) : Prop := e = .returned (.bool true) ∧ Below w.heap.size w w'
set_option maxRecDepth 100000 in
set_option maxHeartbeats 8000000 in
theorem order_law (A : Option Addr) (c : Nat) (l : List OpP) (w : World) (hs : SlO w A l) (hl : l.length ≤ 9223372036854775807) :
    Calls Try.prog 7 #[.slice A l.length c] w (OrdEnd w) := by
  have HS := Lib.hid hs
  have HL9 := Lib.hid hl
  clear hs hl
  go_enter Try.func7, Try.ntmps7
  go_wp2_with fail
  refine (alive_any w).mono ?_
  rintro e w1 ⟨rfl, hb1⟩
  have HB1 := Lib.hid hb1
  have HG := Lib.hid (great_any A c l w1 (HS.out.next hb1) HL9.out)
  clear hb1
  go_wp2_with fail
  refine HG.out.mono ?_
  rintro e w' ⟨gr, rfl, rfl, hgr⟩
  cases gr with
  | true =>
    have HF : Hid (OrdEnd w (.returned (.bool true)) w1) := ⟨rfl, HB1.out⟩
    clear hgr
    go_wp2
    go_ret
    exact HF.out
  | false =>
  have HGR := Lib.hid (hgr rfl)
  clear hgr HG
  have HGW := Lib.hid (grown_any A c l w1 (HS.out.next HB1.out) HGR.out.1)
  go_wp2_with fail
  refine HGW.out.mono ?_
  rintro e w2 ⟨u, L, rfl, ht2, hL, hkv, hb2⟩
  have hL1 : L.length ≤ 100 := Nat.le_trans hL HGR.out.1
  have HB2 := Lib.hid (HB1.out.trans (hb2.mono HB1.out.size))
  have HT2 := Lib.hid ht2
  have HR := Lib.hid ht2.rise
  have HLN := Lib.hid hL1
  have HKV := Lib.hid hkv
  have HR1 := Lib.hid (rangeM_any none none 0 0 [] [] 1000 w2 ht2 (fun h => absurd rfl h) (fun h => absurd rfl h))
  rw [fromL_nil, rgL_all (by omega)] at HR1
  clear ht2 hL hL1 hb2 HGW hkv
  go_wp2_with fail
  refine HR1.out.mono ?_
  rintro e w3 ⟨v3, qs, rfl, ho3, hq3, hb3⟩
  have hn := ownQ_len ho3 hq3
  obtain ⟨A3, c3, rfl⟩ := ho3.form
  rw [hn] at ho3 ⊢
  have HO3 := Lib.hid ho3
  have HQ3 := Lib.hid hq3
  have HB3 := Lib.hid (HB2.out.trans (hb3.mono HB2.out.size))
  have HT3 := Lib.hid (HT2.out.next hb3)
  obtain ⟨n, hnn⟩ : ∃ n, L.length = n := ⟨_, rfl⟩
  have HNN := Lib.hid hnn
  rw [hnn] at HO3 ⊢
  have hn100 : n ≤ 100 := by rw [← hnn]; exact HLN.out
  have hw1 : IntKind.i64.wrap ((n : Int) - 1) = (n : Int) - 1 := IntWalk.i64_in _ (by omega)
  clear ho3 hq3 hb3 HR1 hn hnn
  go_wp2_with fail
  clear hw1
  go_loopg [6, 7] n (fun gk b i wr => ∃ (j : Nat) (x : Int) (u9 : Option Addr), i = .int .i64 x ∧ x = (j : Int) - 1 ∧ b = .pointer u9 ∧ j = gk ∧ Hid (j ≤ n) ∧ Hid (TreeV wr (.pointer u9) (L.drop j)) ∧ Hid (Below w3.heap.size w3 wr))
  case atStart => exact ⟨n, _, none, rfl, rfl, rfl, rfl, Nat.le_refl _, by show TreeV _ _ _; rw [← HNN.out, List.drop_length]; exact treeV_nil _, Below.refl _ _⟩
  case round =>
    obtain ⟨j, x, u9, rfl, hx, rfl, hj, HJN, HT, HB⟩ := hrel
    cases gk with
    | succ g =>
      subst hj
      obtain rfl : x = (g : Int) := by omega
      clear hx
      have hgn : g < n := HJN.out
      have hgi : (g : Int) < (n : Int) := by omega
      have hg0 : (0 : Int) ≤ (g : Int) := by omega
      have hg0' : decide ((0 : Int) ≤ (g : Int)) = true := decide_eq_true hg0
      obtain ⟨p, hp⟩ : ∃ p, L[g]? = some p := ⟨_, List.getElem?_eq_getElem (by rw [HNN.out]; exact hgn)⟩
      obtain ⟨a0, H1, k1, H2, k2, rfl, hgl, hc1, hc2, hs1, hs2⟩ := HO3.out.pair HQ3.out (i := g) hp
      have HC1 := Lib.hid hc1
      have HC2 := Lib.hid hc2
      have HGL := Lib.hid hgl
      have hmem : p ∈ L := List.mem_of_getElem? hp
      have hpd : putL (L.drop (g + 1)) (p.1, p.2) = L.drop g := put_drop HR.out hp
      have HPT := Lib.hid (fun X (hX : Below wr.heap.size wr X) => putM_any H1 H2 k1 k2 p.1 p.2 X (HT.out.next hX) (slB_up hs1 (HB.out.trans (hX.mono HB.out.size))) (slB_up hs2 (HB.out.trans (hX.mono HB.out.size))) (HKV.out p hmem).1 (HKV.out p hmem).2 (by rw [List.length_drop]; have := HLN.out; omega))
      rw [hpd] at HPT
      clear hp hgl hc1 hc2 hs1 hs2 hmem hpd
      go_wp2_with fail
      have HS0 := Lib.hid (qb_dn (Below.refl wr.heap.size wr) 1)
      obtain ⟨we, hwe⟩ : ∃ X, wr.drew = X := ⟨_, rfl⟩
      refine wp_region_held_drew (S := fun X => Below wr.heap.size wr X) (by kernel_rfl) HS0.out (fun hHeld => ?_)
      rw [hwe] at hHeld ⊢
      clear hwe HS0
      refine takeV 0 (some 33) ((.pointer u9)) rfl rfl (by kernel_rfl) (by kernel_rfl) (by kernel_rfl) (fun _ _ _ h => h) (by rfl) (by (intro _w _hSw; (try dsimp only at _hSw); go_simp)) (by assumption) ?_
      simp only [Act.put, List.setIfInBounds_toArray, List.set_cons_zero, List.set_cons_succ]
      refine takeV 1 (some 34) ((.slice (some ⟨a0, 0, none⟩) n c3)) rfl rfl (by kernel_rfl) (by kernel_rfl) (by kernel_rfl) (fun _ _ _ h => h) (by rfl) (by (intro _w _hSw; (try dsimp only at _hSw); go_simp)) (by assumption) ?_
      simp only [Act.put, List.setIfInBounds_toArray, List.set_cons_zero, List.set_cons_succ]
      refine takeV 2 (some 35) ((.int .i64 (g : Nat))) rfl rfl (by kernel_rfl) (by kernel_rfl) (by kernel_rfl) (fun _ _ _ h => h) (by rfl) (by (intro _w _hSw; (try dsimp only at _hSw); go_simp)) (by assumption) ?_
      simp only [Act.put, List.setIfInBounds_toArray, List.set_cons_zero, List.set_cons_succ]
      refine takeV 3 (some 36) ((.pointer (some ⟨a0, g * 2, none⟩))) rfl rfl (by kernel_rfl) (by kernel_rfl) (by kernel_rfl) (fun _ _ _ h => h) (by rfl) (by (intro _w _hSw; (try dsimp only at _hSw); go_simp)) (by assumption) ?_
      simp only [Act.put, List.setIfInBounds_toArray, List.set_cons_zero, List.set_cons_succ]
      refine takeV 4 (some 37) ((.pointer (some ⟨a0, g * 2, none⟩))) rfl rfl (by kernel_rfl) (by kernel_rfl) (by kernel_rfl) (fun _ _ _ h => h) (by rfl) (by (intro _w _hSw; (try dsimp only at _hSw); go_simp)) (by assumption) ?_
      simp only [Act.put, List.setIfInBounds_toArray, List.set_cons_zero, List.set_cons_succ]
      refine takeV 5 (some 38) ((.slice H1 p.1.length k1)) rfl rfl (by kernel_rfl) (by kernel_rfl) (by kernel_rfl) (fun _ _ _ h => h) (by rfl) (by (intro _w hSw; have q0 := ((HB.out.trans (hSw.mono HB.out.size)).cell (p := ⟨a0, g * 2, none⟩) HGL.out).trans HC1.out; clear hSw; go_simp)) (by assumption) ?_
      simp only [Act.put, List.setIfInBounds_toArray, List.set_cons_zero, List.set_cons_succ]
      refine takeV 6 (some 39) ((.slice (some ⟨a0, 0, none⟩) n c3)) rfl rfl (by kernel_rfl) (by kernel_rfl) (by kernel_rfl) (fun _ _ _ h => h) (by rfl) (by (intro _w _hSw; (try dsimp only at _hSw); go_simp)) (by assumption) ?_
      simp only [Act.put, List.setIfInBounds_toArray, List.set_cons_zero, List.set_cons_succ]
      refine takeV 7 (some 40) ((.int .i64 (g : Nat))) rfl rfl (by kernel_rfl) (by kernel_rfl) (by kernel_rfl) (fun _ _ _ h => h) (by rfl) (by (intro _w _hSw; (try dsimp only at _hSw); go_simp)) (by assumption) ?_
      simp only [Act.put, List.setIfInBounds_toArray, List.set_cons_zero, List.set_cons_succ]
      refine takeV 8 (some 41) ((.pointer (some ⟨a0, g * 2, none⟩))) rfl rfl (by kernel_rfl) (by kernel_rfl) (by kernel_rfl) (fun _ _ _ h => h) (by rfl) (by (intro _w _hSw; (try dsimp only at _hSw); go_simp)) (by assumption) ?_
      simp only [Act.put, List.setIfInBounds_toArray, List.set_cons_zero, List.set_cons_succ]
      refine takeV 9 (some 42) ((.pointer (some ⟨a0, g * 2 + 1, none⟩))) rfl rfl (by kernel_rfl) (by kernel_rfl) (by kernel_rfl) (fun _ _ _ h => h) (by rfl) (by (intro _w _hSw; (try dsimp only at _hSw); go_simp)) (by assumption) ?_
      simp only [Act.put, List.setIfInBounds_toArray, List.set_cons_zero, List.set_cons_succ]
      refine takeV 10 (some 43) ((.slice H2 p.2.length k2)) rfl rfl (by kernel_rfl) (by kernel_rfl) (by kernel_rfl) (fun _ _ _ h => h) (by rfl) (by (intro _w hSw; have q0 := ((HB.out.trans (hSw.mono HB.out.size)).cell (p := ⟨a0, g * 2 + 1, none⟩) HGL.out).trans HC2.out; clear hSw; go_simp)) (by assumption) ?_
      simp only [Act.put, List.setIfInBounds_toArray, List.set_cons_zero, List.set_cons_succ]
      refine callV 11 rfl (by kernel_rfl) (by rfl) (fun K hK => ?_)
      go_simp
      refine (HPT.out _ hHeld).mono ?_
      rintro e w5 ⟨v5, rfl, ⟨b5, rfl⟩, ht5, hb5⟩
      have HT5 := Lib.hid ht5
      have HB5 := Lib.hid (HB.out.trans ((hHeld.trans (hb5.mono hHeld.size)).mono HB.out.size))
      refine hK.out _ _ (below_more hHeld hb5 hHeld.size) (fun hHeld2 => ?_)
      clear hK K hHeld ht5 hb5
      have hHeld := hHeld2
      clear hHeld2
      try simp only [Act.put, List.setIfInBounds_toArray, List.set_cons_zero, List.set_cons_succ]
      refine takeV 12 (some 32) ((.tuple #[.pointer (some ⟨b5, 0, none⟩), .int .i64 0])) rfl rfl (by kernel_rfl) (by kernel_rfl) (by kernel_rfl) (fun _ _ _ h => h) (by rfl) (by (intro _w _hSw; (try dsimp only at _hSw); go_simp)) (by assumption) ?_
      simp only [Act.put, List.setIfInBounds_toArray, List.set_cons_zero, List.set_cons_succ]
      refine takeV 13 (some 45) ((.pointer (some ⟨b5, 0, none⟩))) rfl rfl (by kernel_rfl) (by kernel_rfl) (by kernel_rfl) (fun _ _ _ h => h) (by rfl) (by (intro _w _hSw; (try dsimp only at _hSw); go_simp)) (by assumption) ?_
      simp only [Act.put, List.setIfInBounds_toArray, List.set_cons_zero, List.set_cons_succ]
      refine takeV 14 (some 46) ((.int .i64 0)) rfl rfl (by kernel_rfl) (by kernel_rfl) (by kernel_rfl) (fun _ _ _ h => h) (by rfl) (by (intro _w _hSw; (try dsimp only at _hSw); go_simp)) (by assumption) ?_
      simp only [Act.put, List.setIfInBounds_toArray, List.set_cons_zero, List.set_cons_succ]
      refine takeV 15 (some 8) ((.pointer (some ⟨b5, 0, none⟩))) rfl rfl (by kernel_rfl) (by kernel_rfl) (by kernel_rfl) (fun _ _ _ h => h) (by rfl) (by (intro _w _hSw; (try dsimp only at _hSw); go_simp)) (by assumption) ?_
      simp only [Act.put, List.setIfInBounds_toArray, List.set_cons_zero, List.set_cons_succ]
      refine takeV 16 (some 9) ((.int .i64 0)) rfl rfl (by kernel_rfl) (by kernel_rfl) (by kernel_rfl) (fun _ _ _ h => h) (by rfl) (by (intro _w _hSw; (try dsimp only at _hSw); go_simp)) (by assumption) ?_
      simp only [Act.put, List.setIfInBounds_toArray, List.set_cons_zero, List.set_cons_succ]
      refine wpAnyH_done (by kernel_rfl) ?_ _
      have hw2 : IntKind.i64.wrap ((g : Int) - 1) = (g : Int) - 1 := IntWalk.i64_in _ (by omega)
      go_wp2
      clear hw2
      go_roundg g
      case measure => omega
      case rel => exact ⟨g, (g : Int) - 1, _, by go_num, rfl, rfl, rfl, by show g ≤ n; omega, HT5.out, HB5.out⟩
    | zero =>
      subst hj
      obtain rfl : x = -1 := by omega
      clear hx
      have HTR := HT
      rw [List.drop_zero] at HTR
      have HEQ := Lib.hid (equal_any wr (HT3.out.next HB.out) HTR.out)
      clear HT HJN
      go_wp2_with fail
      refine HEQ.out.mono ?_
      rintro e w4 ⟨rfl, hb4⟩
      have HB4 := Lib.hid (HB.out.trans (hb4.mono HB.out.size))
      have HTB := Lib.hid (HTR.out.next hb4)
      have HTA4 := Lib.hid (HT3.out.next HB4.out)
      have HLE := Lib.hid (len_any w4 HTA4.out)
      rw [HNN.out] at HLE
      clear hb4 HEQ HTR HB
      go_wp2_with fail
      refine HLE.out.mono ?_
      rintro e w' ⟨rfl, rfl⟩
      clear HLE
      go_wp2_with fail
      go_loopg [63] n (fun gk i wr => ∃ (j : Nat), i = .int .i64 (j : Nat) ∧ j + gk = n ∧ Hid (Below w4.heap.size w4 wr))
      case atStart => exact ⟨0, rfl, by omega, Below.refl _ _⟩
      case round =>
        obtain ⟨j, rfl, hj, HB⟩ := hrel
        cases gk with
        | zero =>
          have hjz : ¬ ((j : Int) < (n : Int)) := by omega
          have hjz' : decide ((j : Int) < (n : Int)) = false := decide_eq_false hjz
          have HF : Hid (OrdEnd w (.returned (.bool true)) wr) := ⟨rfl, HB3.out.trans ((HB4.out.trans (HB.out.mono HB4.out.size)).mono HB3.out.size)⟩
          go_wp2
          go_ret
          exact HF.out
        | succ gk =>
          have hjz : ((j : Int) < (n : Int)) := by omega
          have hjz' : decide ((j : Int) < (n : Int)) = true := decide_eq_true hjz
          have hjn : j < n := by omega
          have hj0 : (0 : Int) ≤ (j : Int) := by omega
          obtain ⟨p, hp⟩ : ∃ p, L[j]? = some p := ⟨_, List.getElem?_eq_getElem (by rw [HNN.out]; exact hjn)⟩
          have HPJ := Lib.hid hp
          obtain ⟨a0, H1, k1, H2, k2, rfl, hgl, hc1, hc2, hs1, hs2⟩ := HO3.out.pair HQ3.out (i := j) hp
          have HC1 := Lib.hid hc1
          have HC2 := Lib.hid hc2
          have HGL := Lib.hid hgl
          have HK1 := Lib.hid hs1
          have HK2 := Lib.hid hs2
          have HAT := Lib.hid (atM_any (j : Int) wr (HTB.out.next HB.out) (by omega) (by omega))
          clear hp hgl hc1 hc2 hs1 hs2
          go_wp2_with fail
          refine HAT.out.mono ?_
          rintro e w5 h5
          obtain ⟨Aa, ca, Av, cv, rfl, ka, ya, hb5⟩ := prEnd_of (k := p.1) (x := p.2) (is := true) h5 (by unfold atP; rw [if_pos (by omega)]; simp [HPJ.out]) (by unfold isP; exact decide_eq_true (by rw [HNN.out]; omega))
          clear h5 HAT
          obtain ⟨w6, hw6⟩ : ∃ X, w5.alloc (.cells #[.slice Aa p.1.length ca, .slice Av p.2.length cv] 57) = X := ⟨_, rfl⟩
          have hb56 : Below w5.heap.size w5 w6 := by rw [← hw6]; exact (Below.refl _ _).alloc (Nat.le_refl _) _
          have HP6 : Hid (PBox w6 w5.heap.size (.slice Aa p.1.length ca) (.slice Av p.2.length cv)) := by show PBox _ _ _ _; rw [← hw6]; exact heap_alloc_new w5 _
          have HB46 := Lib.hid (HB.out.trans ((hb5.trans (hb56.mono hb5.size)).mono HB.out.size))
          have HB36 := Lib.hid (HB4.out.trans (HB46.out.mono HB4.out.size))
          have HTO := Lib.hid (fun X (hX : Below w6.heap.size w6 X) => toldB_any Aa Av ca cv p true ⟨p.1.toArray⟩ ⟨p.2.toArray⟩ (slB_up (slB_up ka hb56) hX) (slB_up (slB_up ya hb56) hX))
          rw [toldE_self] at HTO
          have HRK := Lib.hid (fun X (hX : Below w6.heap.size w6 X) => rankM_any H1 k1 p.1 X (HT3.out.next (HB36.out.trans (hX.mono HB36.out.size))) (slB_up HK1.out (HB36.out.trans (hX.mono HB36.out.size))))
          rw [rank_at HR.out HPJ.out] at HRK
          have HU := Lib.hid (fun X (hX : Below w6.heap.size w6 X) => HB36.out.trans (hX.mono HB36.out.size))
          have HS1 := Lib.hid (fun X (hX : Below w6.heap.size w6 X) => slB_string (slB_up HK1.out (HU.out X hX)) k1)
          have HS2 := Lib.hid (fun X (hX : Below w6.heap.size w6 X) => slB_string (slB_up HK2.out (HU.out X hX)) k2)
          clear ka ya hb5 hb56
          go_wp2_with fail
          try rw [hw6]
          clear hw6
          have HS0 := Lib.hid (qb_dn (Below.refl w6.heap.size w6) 1)
          obtain ⟨we, hwe⟩ : ∃ X, w6.drew = X := ⟨_, rfl⟩
          refine wp_region_held_drew (S := fun X => Below w6.heap.size w6 X) (by kernel_rfl) HS0.out (fun hHeld => ?_)
          rw [hwe] at hHeld ⊢
          clear hwe HS0
          by_cases gp : 0 < j
          · have gp1 : (0 : Int) < (j : Int) := by omega
            have gp2 : decide ((0 : Int) < (j : Int)) = true := decide_eq_true gp1
            obtain ⟨j2, hj2⟩ : ∃ j2, j = j2 + 1 := ⟨j - 1, by omega⟩
            have hq1 : ((j : Int) - 1) = (j2 : Int) := by omega
            have hq2 : (j2 : Int) < (n : Int) := by omega
            have hq3 : (0 : Int) ≤ (j2 : Int) := by omega
            have hq4 : IntKind.i64.wrap (j2 : Int) = (j2 : Int) := IntWalk.i64_in _ (by omega)
            obtain ⟨q, hq⟩ : ∃ q, L[j2]? = some q := ⟨_, List.getElem?_eq_getElem (by rw [HNN.out]; omega)⟩
            have hbl : Op.bytesLess q.1 p.1 = true := lt_next HR.out hq (hj2 ▸ HPJ.out)
            obtain ⟨a1, G1, m1, G2, m2, ea, _, hcg, _, hsg, _⟩ := HO3.out.pair HQ3.out (i := j2) hq
            obtain rfl : a0 = a1 := by injection ea with ea; injection ea
            have HCG := Lib.hid hcg
            have HSG := Lib.hid (fun X (hX : Below w6.heap.size w6 X) => slB_string (slB_up hsg (HU.out X hX)) m1)
            clear hq hcg hsg ea hj2
            refine takeV 0 (some 72) ((.agg #[.slice Aa p.1.length ca, .slice Av p.2.length cv])) rfl rfl (by kernel_rfl) (by kernel_rfl) (by kernel_rfl) (fun _ _ _ h => h) (by rfl) (by (intro _w hSw; have hx := HP6.out.next hSw HP6.out.lt; have q0 := hx.c0; have q1 := hx.c1; clear hSw; go_simp)) (by assumption) ?_
            simp only [Act.put, List.setIfInBounds_toArray, List.set_cons_zero, List.set_cons_succ]
            refine takeV 1 (some 73) ((.bool true)) rfl rfl (by kernel_rfl) (by kernel_rfl) (by kernel_rfl) (fun _ _ _ h => h) (by rfl) (by (intro _w _hSw; (try dsimp only at _hSw); go_simp)) (by assumption) ?_
            simp only [Act.put, List.setIfInBounds_toArray, List.set_cons_zero, List.set_cons_succ]
            refine takeV 2 (some 74) ((.slice (some ⟨a0, 0, none⟩) n c3)) rfl rfl (by kernel_rfl) (by kernel_rfl) (by kernel_rfl) (fun _ _ _ h => h) (by rfl) (by (intro _w _hSw; (try dsimp only at _hSw); go_simp)) (by assumption) ?_
            simp only [Act.put, List.setIfInBounds_toArray, List.set_cons_zero, List.set_cons_succ]
            refine takeV 3 (some 75) ((.int .i64 (j : Nat))) rfl rfl (by kernel_rfl) (by kernel_rfl) (by kernel_rfl) (fun _ _ _ h => h) (by rfl) (by (intro _w _hSw; (try dsimp only at _hSw); go_simp)) (by assumption) ?_
            simp only [Act.put, List.setIfInBounds_toArray, List.set_cons_zero, List.set_cons_succ]
            refine takeV 4 (some 76) ((.pointer (some ⟨a0, j * 2, none⟩))) rfl rfl (by kernel_rfl) (by kernel_rfl) (by kernel_rfl) (fun _ _ _ h => h) (by rfl) (by (intro _w _hSw; (try dsimp only at _hSw); go_simp)) (by assumption) ?_
            simp only [Act.put, List.setIfInBounds_toArray, List.set_cons_zero, List.set_cons_succ]
            refine takeV 5 (some 77) ((.pointer (some ⟨a0, j * 2, none⟩))) rfl rfl (by kernel_rfl) (by kernel_rfl) (by kernel_rfl) (fun _ _ _ h => h) (by rfl) (by (intro _w _hSw; (try dsimp only at _hSw); go_simp)) (by assumption) ?_
            simp only [Act.put, List.setIfInBounds_toArray, List.set_cons_zero, List.set_cons_succ]
            refine takeV 6 (some 78) ((.slice H1 p.1.length k1)) rfl rfl (by kernel_rfl) (by kernel_rfl) (by kernel_rfl) (fun _ _ _ h => h) (by rfl) (by (intro _w hSw; have q0 := ((HU.out _w hSw).cell (p := ⟨a0, j * 2, none⟩) HGL.out).trans HC1.out; clear hSw; go_simp)) (by assumption) ?_
            simp only [Act.put, List.setIfInBounds_toArray, List.set_cons_zero, List.set_cons_succ]
            refine takeV 7 (some 79) ((.string ⟨p.1.toArray⟩)) rfl rfl (by kernel_rfl) (by kernel_rfl) (by kernel_rfl) (fun _ _ _ h => h) (by rfl) (by (intro _w hSw; have q0 := HS1.out _w hSw; clear hSw; go_simp)) (by assumption) ?_
            simp only [Act.put, List.setIfInBounds_toArray, List.set_cons_zero, List.set_cons_succ]
            refine takeV 8 (some 80) ((.slice (some ⟨a0, 0, none⟩) n c3)) rfl rfl (by kernel_rfl) (by kernel_rfl) (by kernel_rfl) (fun _ _ _ h => h) (by rfl) (by (intro _w _hSw; (try dsimp only at _hSw); go_simp)) (by assumption) ?_
            simp only [Act.put, List.setIfInBounds_toArray, List.set_cons_zero, List.set_cons_succ]
            refine takeV 9 (some 81) ((.int .i64 (j : Nat))) rfl rfl (by kernel_rfl) (by kernel_rfl) (by kernel_rfl) (fun _ _ _ h => h) (by rfl) (by (intro _w _hSw; (try dsimp only at _hSw); go_simp)) (by assumption) ?_
            simp only [Act.put, List.setIfInBounds_toArray, List.set_cons_zero, List.set_cons_succ]
            refine takeV 10 (some 82) ((.pointer (some ⟨a0, j * 2, none⟩))) rfl rfl (by kernel_rfl) (by kernel_rfl) (by kernel_rfl) (fun _ _ _ h => h) (by rfl) (by (intro _w _hSw; (try dsimp only at _hSw); go_simp)) (by assumption) ?_
            simp only [Act.put, List.setIfInBounds_toArray, List.set_cons_zero, List.set_cons_succ]
            refine takeV 11 (some 83) ((.pointer (some ⟨a0, j * 2 + 1, none⟩))) rfl rfl (by kernel_rfl) (by kernel_rfl) (by kernel_rfl) (fun _ _ _ h => h) (by rfl) (by (intro _w _hSw; (try dsimp only at _hSw); go_simp)) (by assumption) ?_
            simp only [Act.put, List.setIfInBounds_toArray, List.set_cons_zero, List.set_cons_succ]
            refine takeV 12 (some 84) ((.slice H2 p.2.length k2)) rfl rfl (by kernel_rfl) (by kernel_rfl) (by kernel_rfl) (fun _ _ _ h => h) (by rfl) (by (intro _w hSw; have q0 := ((HU.out _w hSw).cell (p := ⟨a0, j * 2 + 1, none⟩) HGL.out).trans HC2.out; clear hSw; go_simp)) (by assumption) ?_
            simp only [Act.put, List.setIfInBounds_toArray, List.set_cons_zero, List.set_cons_succ]
            refine takeV 13 (some 85) ((.string ⟨p.2.toArray⟩)) rfl rfl (by kernel_rfl) (by kernel_rfl) (by kernel_rfl) (fun _ _ _ h => h) (by rfl) (by (intro _w hSw; have q0 := HS2.out _w hSw; clear hSw; go_simp)) (by assumption) ?_
            simp only [Act.put, List.setIfInBounds_toArray, List.set_cons_zero, List.set_cons_succ]
            refine callV 14 rfl (by kernel_rfl) (by rfl) (fun K hK => ?_)
            go_simp
            refine (HTO.out _ hHeld).mono ?_
            rintro e wf ⟨rfl, hbf⟩
            refine hK.out _ _ (below_more hHeld hbf hHeld.size) (fun hHeld2 => ?_)
            clear hK K hHeld hbf
            have hHeld := hHeld2
            clear hHeld2
            try simp only [Act.put, List.setIfInBounds_toArray, List.set_cons_zero, List.set_cons_succ]
            refine takeV 15 (some 87) ((.bool false)) rfl rfl (by kernel_rfl) (by kernel_rfl) (by kernel_rfl) (fun _ _ _ h => h) (by rfl) (by (intro _w _hSw; (try dsimp only at _hSw); go_simp)) (by assumption) ?_
            simp only [Act.put, List.setIfInBounds_toArray, List.set_cons_zero, List.set_cons_succ]
            refine takeV 16 (some 88) ((.bool false)) rfl rfl (by kernel_rfl) (by kernel_rfl) (by kernel_rfl) (fun _ _ _ h => h) (by rfl) (by (intro _w _hSw; (try dsimp only at _hSw); go_simp)) (by assumption) ?_
            simp only [Act.put, List.setIfInBounds_toArray, List.set_cons_zero, List.set_cons_succ]
            refine takeV 17 (some 89) ((.pointer u)) rfl rfl (by kernel_rfl) (by kernel_rfl) (by kernel_rfl) (fun _ _ _ h => h) (by rfl) (by (intro _w _hSw; (try dsimp only at _hSw); go_simp)) (by assumption) ?_
            simp only [Act.put, List.setIfInBounds_toArray, List.set_cons_zero, List.set_cons_succ]
            refine takeV 18 (some 90) ((.slice (some ⟨a0, 0, none⟩) n c3)) rfl rfl (by kernel_rfl) (by kernel_rfl) (by kernel_rfl) (fun _ _ _ h => h) (by rfl) (by (intro _w _hSw; (try dsimp only at _hSw); go_simp)) (by assumption) ?_
            simp only [Act.put, List.setIfInBounds_toArray, List.set_cons_zero, List.set_cons_succ]
            refine takeV 19 (some 91) ((.int .i64 (j : Nat))) rfl rfl (by kernel_rfl) (by kernel_rfl) (by kernel_rfl) (fun _ _ _ h => h) (by rfl) (by (intro _w _hSw; (try dsimp only at _hSw); go_simp)) (by assumption) ?_
            simp only [Act.put, List.setIfInBounds_toArray, List.set_cons_zero, List.set_cons_succ]
            refine takeV 20 (some 92) ((.pointer (some ⟨a0, j * 2, none⟩))) rfl rfl (by kernel_rfl) (by kernel_rfl) (by kernel_rfl) (fun _ _ _ h => h) (by rfl) (by (intro _w _hSw; (try dsimp only at _hSw); go_simp)) (by assumption) ?_
            simp only [Act.put, List.setIfInBounds_toArray, List.set_cons_zero, List.set_cons_succ]
            refine takeV 21 (some 93) ((.pointer (some ⟨a0, j * 2, none⟩))) rfl rfl (by kernel_rfl) (by kernel_rfl) (by kernel_rfl) (fun _ _ _ h => h) (by rfl) (by (intro _w _hSw; (try dsimp only at _hSw); go_simp)) (by assumption) ?_
            simp only [Act.put, List.setIfInBounds_toArray, List.set_cons_zero, List.set_cons_succ]
            refine takeV 22 (some 94) ((.slice H1 p.1.length k1)) rfl rfl (by kernel_rfl) (by kernel_rfl) (by kernel_rfl) (fun _ _ _ h => h) (by rfl) (by (intro _w hSw; have q0 := ((HU.out _w hSw).cell (p := ⟨a0, j * 2, none⟩) HGL.out).trans HC1.out; clear hSw; go_simp)) (by assumption) ?_
            simp only [Act.put, List.setIfInBounds_toArray, List.set_cons_zero, List.set_cons_succ]
            refine takeV 24 (some 96) ((.int .i64 (j : Nat))) rfl rfl (by kernel_rfl) (by kernel_rfl) (by kernel_rfl) (fun _ _ _ h => h) (by rfl) (by (intro _w _hSw; (try dsimp only at _hSw); go_simp)) (by assumption) ?_
            simp only [Act.put, List.setIfInBounds_toArray, List.set_cons_zero, List.set_cons_succ]
            refine callV 23 rfl (by kernel_rfl) (by rfl) (fun K hK => ?_)
            go_simp
            refine (HRK.out _ hHeld).mono ?_
            rintro e w' ⟨rfl, rfl⟩
            refine hK.out _ _ hHeld (fun hHeld2 => ?_)
            clear hK K hHeld
            have hHeld := hHeld2
            clear hHeld2
            try simp only [Act.put, List.setIfInBounds_toArray, List.set_cons_zero, List.set_cons_succ]
            refine takeV 25 (some 97) ((.bool false)) rfl rfl (by kernel_rfl) (by kernel_rfl) (by kernel_rfl) (fun _ _ _ h => h) (by rfl) (by (intro _w _hSw; (try dsimp only at _hSw); go_simp)) (by assumption) ?_
            simp only [Act.put, List.setIfInBounds_toArray, List.set_cons_zero, List.set_cons_succ]
            refine takeV 26 (some 98) ((.bool false)) rfl rfl (by kernel_rfl) (by kernel_rfl) (by kernel_rfl) (fun _ _ _ h => h) (by rfl) (by (intro _w _hSw; (try dsimp only at _hSw); go_simp)) (by assumption) ?_
            simp only [Act.put, List.setIfInBounds_toArray, List.set_cons_zero, List.set_cons_succ]
            refine takeV 27 (some 99) ((.bool false)) rfl rfl (by kernel_rfl) (by kernel_rfl) (by kernel_rfl) (fun _ _ _ h => h) (by rfl) (by (intro _w _hSw; (try dsimp only at _hSw); go_simp)) (by assumption) ?_
            simp only [Act.put, List.setIfInBounds_toArray, List.set_cons_zero, List.set_cons_succ]
            refine takeV 28 (some 100) ((.int .i64 (j : Nat))) rfl rfl (by kernel_rfl) (by kernel_rfl) (by kernel_rfl) (fun _ _ _ h => h) (by rfl) (by (intro _w _hSw; (try dsimp only at _hSw); go_simp)) (by assumption) ?_
            simp only [Act.put, List.setIfInBounds_toArray, List.set_cons_zero, List.set_cons_succ]
            refine takeV 29 (some 101) ((.bool true)) rfl rfl (by kernel_rfl) (by kernel_rfl) (by kernel_rfl) (fun _ _ _ h => h) (by rfl) (by (intro _w _hSw; (try dsimp only at _hSw); go_simp)) (by assumption) ?_
            simp only [Act.put, List.setIfInBounds_toArray, List.set_cons_zero, List.set_cons_succ]
            refine takeV 30 (some 102) ((.bool true)) rfl rfl (by kernel_rfl) (by kernel_rfl) (by kernel_rfl) (fun _ _ _ h => h) (by rfl) (by (intro _w _hSw; (try dsimp only at _hSw); go_simp)) (by assumption) ?_
            simp only [Act.put, List.setIfInBounds_toArray, List.set_cons_zero, List.set_cons_succ]
            refine takeV 31 (some 103) ((.slice (some ⟨a0, 0, none⟩) n c3)) rfl rfl (by kernel_rfl) (by kernel_rfl) (by kernel_rfl) (fun _ _ _ h => h) (by rfl) (by (intro _w _hSw; (try dsimp only at _hSw); go_simp)) (by assumption) ?_
            simp only [Act.put, List.setIfInBounds_toArray, List.set_cons_zero, List.set_cons_succ]
            refine takeV 32 (some 104) ((.int .i64 (j : Nat))) rfl rfl (by kernel_rfl) (by kernel_rfl) (by kernel_rfl) (fun _ _ _ h => h) (by rfl) (by (intro _w _hSw; (try dsimp only at _hSw); go_simp)) (by assumption) ?_
            simp only [Act.put, List.setIfInBounds_toArray, List.set_cons_zero, List.set_cons_succ]
            refine takeV 33 (some 105) ((.int .i64 (j2 : Nat))) rfl rfl (by kernel_rfl) (by kernel_rfl) (by kernel_rfl) (fun _ _ _ h => h) (by rfl) (by (intro _w _hSw; (try dsimp only at _hSw); go_simp)) (by assumption) ?_
            simp only [Act.put, List.setIfInBounds_toArray, List.set_cons_zero, List.set_cons_succ]
            refine takeV 34 (some 106) ((.pointer (some ⟨a0, j2 * 2, none⟩))) rfl rfl (by kernel_rfl) (by kernel_rfl) (by kernel_rfl) (fun _ _ _ h => h) (by rfl) (by (intro _w _hSw; (try dsimp only at _hSw); go_simp)) (by assumption) ?_
            simp only [Act.put, List.setIfInBounds_toArray, List.set_cons_zero, List.set_cons_succ]
            refine takeV 35 (some 107) ((.pointer (some ⟨a0, j2 * 2, none⟩))) rfl rfl (by kernel_rfl) (by kernel_rfl) (by kernel_rfl) (fun _ _ _ h => h) (by rfl) (by (intro _w _hSw; (try dsimp only at _hSw); go_simp)) (by assumption) ?_
            simp only [Act.put, List.setIfInBounds_toArray, List.set_cons_zero, List.set_cons_succ]
            refine takeV 36 (some 108) ((.slice G1 q.1.length m1)) rfl rfl (by kernel_rfl) (by kernel_rfl) (by kernel_rfl) (fun _ _ _ h => h) (by rfl) (by (intro _w hSw; have q0 := ((HU.out _w hSw).cell (p := ⟨a0, j2 * 2, none⟩) HGL.out).trans HCG.out; clear hSw; go_simp)) (by assumption) ?_
            simp only [Act.put, List.setIfInBounds_toArray, List.set_cons_zero, List.set_cons_succ]
            refine takeV 37 (some 109) ((.string ⟨q.1.toArray⟩)) rfl rfl (by kernel_rfl) (by kernel_rfl) (by kernel_rfl) (fun _ _ _ h => h) (by rfl) (by (intro _w hSw; have q0 := HSG.out _w hSw; clear hSw; go_simp)) (by assumption) ?_
            simp only [Act.put, List.setIfInBounds_toArray, List.set_cons_zero, List.set_cons_succ]
            refine takeV 38 (some 110) ((.slice (some ⟨a0, 0, none⟩) n c3)) rfl rfl (by kernel_rfl) (by kernel_rfl) (by kernel_rfl) (fun _ _ _ h => h) (by rfl) (by (intro _w _hSw; (try dsimp only at _hSw); go_simp)) (by assumption) ?_
            simp only [Act.put, List.setIfInBounds_toArray, List.set_cons_zero, List.set_cons_succ]
            refine takeV 39 (some 111) ((.int .i64 (j : Nat))) rfl rfl (by kernel_rfl) (by kernel_rfl) (by kernel_rfl) (fun _ _ _ h => h) (by rfl) (by (intro _w _hSw; (try dsimp only at _hSw); go_simp)) (by assumption) ?_
            simp only [Act.put, List.setIfInBounds_toArray, List.set_cons_zero, List.set_cons_succ]
            refine takeV 40 (some 112) ((.pointer (some ⟨a0, j * 2, none⟩))) rfl rfl (by kernel_rfl) (by kernel_rfl) (by kernel_rfl) (fun _ _ _ h => h) (by rfl) (by (intro _w _hSw; (try dsimp only at _hSw); go_simp)) (by assumption) ?_
            simp only [Act.put, List.setIfInBounds_toArray, List.set_cons_zero, List.set_cons_succ]
            refine takeV 41 (some 113) ((.pointer (some ⟨a0, j * 2, none⟩))) rfl rfl (by kernel_rfl) (by kernel_rfl) (by kernel_rfl) (fun _ _ _ h => h) (by rfl) (by (intro _w _hSw; (try dsimp only at _hSw); go_simp)) (by assumption) ?_
            simp only [Act.put, List.setIfInBounds_toArray, List.set_cons_zero, List.set_cons_succ]
            refine takeV 42 (some 114) ((.slice H1 p.1.length k1)) rfl rfl (by kernel_rfl) (by kernel_rfl) (by kernel_rfl) (fun _ _ _ h => h) (by rfl) (by (intro _w hSw; have q0 := ((HU.out _w hSw).cell (p := ⟨a0, j * 2, none⟩) HGL.out).trans HC1.out; clear hSw; go_simp)) (by assumption) ?_
            simp only [Act.put, List.setIfInBounds_toArray, List.set_cons_zero, List.set_cons_succ]
            refine takeV 43 (some 115) ((.string ⟨p.1.toArray⟩)) rfl rfl (by kernel_rfl) (by kernel_rfl) (by kernel_rfl) (fun _ _ _ h => h) (by rfl) (by (intro _w hSw; have q0 := HS1.out _w hSw; clear hSw; go_simp)) (by assumption) ?_
            simp only [Act.put, List.setIfInBounds_toArray, List.set_cons_zero, List.set_cons_succ]
            refine takeV 44 (some 116) ((.bool false)) rfl rfl (by kernel_rfl) (by kernel_rfl) (by kernel_rfl) (fun _ _ _ h => h) (by rfl) (by (intro _w _hSw; (try dsimp only at _hSw); go_simp)) (by assumption) ?_
            simp only [Act.put, List.setIfInBounds_toArray, List.set_cons_zero, List.set_cons_succ]
            refine takeV 45 (some 117) ((.bool false)) rfl rfl (by kernel_rfl) (by kernel_rfl) (by kernel_rfl) (fun _ _ _ h => h) (by rfl) (by (intro _w _hSw; (try dsimp only at _hSw); go_simp)) (by assumption) ?_
            simp only [Act.put, List.setIfInBounds_toArray, List.set_cons_zero, List.set_cons_succ]
            refine takeV 46 (some 118) ((.bool false)) rfl rfl (by kernel_rfl) (by kernel_rfl) (by kernel_rfl) (fun _ _ _ h => h) (by rfl) (by (intro _w _hSw; (try dsimp only at _hSw); go_simp)) (by assumption) ?_
            simp only [Act.put, List.setIfInBounds_toArray, List.set_cons_zero, List.set_cons_succ]
            refine wpAnyH_done (by kernel_rfl) ?_ _
            have HBR := Lib.hid (HB46.out.trans (hHeld.mono HB46.out.size))
            clear hHeld
            go_wp2
            go_roundg gk
            case measure => omega
            case rel => exact ⟨j + 1, by go_num, by omega, HBR.out⟩
          · have gp1 : ¬ (0 : Int) < (j : Int) := by omega
            have gp2 : decide ((0 : Int) < (j : Int)) = false := decide_eq_false gp1
            refine takeV 0 (some 72) ((.agg #[.slice Aa p.1.length ca, .slice Av p.2.length cv])) rfl rfl (by kernel_rfl) (by kernel_rfl) (by kernel_rfl) (fun _ _ _ h => h) (by rfl) (by (intro _w hSw; have hx := HP6.out.next hSw HP6.out.lt; have q0 := hx.c0; have q1 := hx.c1; clear hSw; go_simp)) (by assumption) ?_
            simp only [Act.put, List.setIfInBounds_toArray, List.set_cons_zero, List.set_cons_succ]
            refine takeV 1 (some 73) ((.bool true)) rfl rfl (by kernel_rfl) (by kernel_rfl) (by kernel_rfl) (fun _ _ _ h => h) (by rfl) (by (intro _w _hSw; (try dsimp only at _hSw); go_simp)) (by assumption) ?_
            simp only [Act.put, List.setIfInBounds_toArray, List.set_cons_zero, List.set_cons_succ]
            refine takeV 2 (some 74) ((.slice (some ⟨a0, 0, none⟩) n c3)) rfl rfl (by kernel_rfl) (by kernel_rfl) (by kernel_rfl) (fun _ _ _ h => h) (by rfl) (by (intro _w _hSw; (try dsimp only at _hSw); go_simp)) (by assumption) ?_
            simp only [Act.put, List.setIfInBounds_toArray, List.set_cons_zero, List.set_cons_succ]
            refine takeV 3 (some 75) ((.int .i64 (j : Nat))) rfl rfl (by kernel_rfl) (by kernel_rfl) (by kernel_rfl) (fun _ _ _ h => h) (by rfl) (by (intro _w _hSw; (try dsimp only at _hSw); go_simp)) (by assumption) ?_
            simp only [Act.put, List.setIfInBounds_toArray, List.set_cons_zero, List.set_cons_succ]
            refine takeV 4 (some 76) ((.pointer (some ⟨a0, j * 2, none⟩))) rfl rfl (by kernel_rfl) (by kernel_rfl) (by kernel_rfl) (fun _ _ _ h => h) (by rfl) (by (intro _w _hSw; (try dsimp only at _hSw); go_simp)) (by assumption) ?_
            simp only [Act.put, List.setIfInBounds_toArray, List.set_cons_zero, List.set_cons_succ]
            refine takeV 5 (some 77) ((.pointer (some ⟨a0, j * 2, none⟩))) rfl rfl (by kernel_rfl) (by kernel_rfl) (by kernel_rfl) (fun _ _ _ h => h) (by rfl) (by (intro _w _hSw; (try dsimp only at _hSw); go_simp)) (by assumption) ?_
            simp only [Act.put, List.setIfInBounds_toArray, List.set_cons_zero, List.set_cons_succ]
            refine takeV 6 (some 78) ((.slice H1 p.1.length k1)) rfl rfl (by kernel_rfl) (by kernel_rfl) (by kernel_rfl) (fun _ _ _ h => h) (by rfl) (by (intro _w hSw; have q0 := ((HU.out _w hSw).cell (p := ⟨a0, j * 2, none⟩) HGL.out).trans HC1.out; clear hSw; go_simp)) (by assumption) ?_
            simp only [Act.put, List.setIfInBounds_toArray, List.set_cons_zero, List.set_cons_succ]
            refine takeV 7 (some 79) ((.string ⟨p.1.toArray⟩)) rfl rfl (by kernel_rfl) (by kernel_rfl) (by kernel_rfl) (fun _ _ _ h => h) (by rfl) (by (intro _w hSw; have q0 := HS1.out _w hSw; clear hSw; go_simp)) (by assumption) ?_
            simp only [Act.put, List.setIfInBounds_toArray, List.set_cons_zero, List.set_cons_succ]
            refine takeV 8 (some 80) ((.slice (some ⟨a0, 0, none⟩) n c3)) rfl rfl (by kernel_rfl) (by kernel_rfl) (by kernel_rfl) (fun _ _ _ h => h) (by rfl) (by (intro _w _hSw; (try dsimp only at _hSw); go_simp)) (by assumption) ?_
            simp only [Act.put, List.setIfInBounds_toArray, List.set_cons_zero, List.set_cons_succ]
            refine takeV 9 (some 81) ((.int .i64 (j : Nat))) rfl rfl (by kernel_rfl) (by kernel_rfl) (by kernel_rfl) (fun _ _ _ h => h) (by rfl) (by (intro _w _hSw; (try dsimp only at _hSw); go_simp)) (by assumption) ?_
            simp only [Act.put, List.setIfInBounds_toArray, List.set_cons_zero, List.set_cons_succ]
            refine takeV 10 (some 82) ((.pointer (some ⟨a0, j * 2, none⟩))) rfl rfl (by kernel_rfl) (by kernel_rfl) (by kernel_rfl) (fun _ _ _ h => h) (by rfl) (by (intro _w _hSw; (try dsimp only at _hSw); go_simp)) (by assumption) ?_
            simp only [Act.put, List.setIfInBounds_toArray, List.set_cons_zero, List.set_cons_succ]
            refine takeV 11 (some 83) ((.pointer (some ⟨a0, j * 2 + 1, none⟩))) rfl rfl (by kernel_rfl) (by kernel_rfl) (by kernel_rfl) (fun _ _ _ h => h) (by rfl) (by (intro _w _hSw; (try dsimp only at _hSw); go_simp)) (by assumption) ?_
            simp only [Act.put, List.setIfInBounds_toArray, List.set_cons_zero, List.set_cons_succ]
            refine takeV 12 (some 84) ((.slice H2 p.2.length k2)) rfl rfl (by kernel_rfl) (by kernel_rfl) (by kernel_rfl) (fun _ _ _ h => h) (by rfl) (by (intro _w hSw; have q0 := ((HU.out _w hSw).cell (p := ⟨a0, j * 2 + 1, none⟩) HGL.out).trans HC2.out; clear hSw; go_simp)) (by assumption) ?_
            simp only [Act.put, List.setIfInBounds_toArray, List.set_cons_zero, List.set_cons_succ]
            refine takeV 13 (some 85) ((.string ⟨p.2.toArray⟩)) rfl rfl (by kernel_rfl) (by kernel_rfl) (by kernel_rfl) (fun _ _ _ h => h) (by rfl) (by (intro _w hSw; have q0 := HS2.out _w hSw; clear hSw; go_simp)) (by assumption) ?_
            simp only [Act.put, List.setIfInBounds_toArray, List.set_cons_zero, List.set_cons_succ]
            refine callV 14 rfl (by kernel_rfl) (by rfl) (fun K hK => ?_)
            go_simp
            refine (HTO.out _ hHeld).mono ?_
            rintro e wf ⟨rfl, hbf⟩
            refine hK.out _ _ (below_more hHeld hbf hHeld.size) (fun hHeld2 => ?_)
            clear hK K hHeld hbf
            have hHeld := hHeld2
            clear hHeld2
            try simp only [Act.put, List.setIfInBounds_toArray, List.set_cons_zero, List.set_cons_succ]
            refine takeV 15 (some 87) ((.bool false)) rfl rfl (by kernel_rfl) (by kernel_rfl) (by kernel_rfl) (fun _ _ _ h => h) (by rfl) (by (intro _w _hSw; (try dsimp only at _hSw); go_simp)) (by assumption) ?_
            simp only [Act.put, List.setIfInBounds_toArray, List.set_cons_zero, List.set_cons_succ]
            refine takeV 16 (some 88) ((.bool false)) rfl rfl (by kernel_rfl) (by kernel_rfl) (by kernel_rfl) (fun _ _ _ h => h) (by rfl) (by (intro _w _hSw; (try dsimp only at _hSw); go_simp)) (by assumption) ?_
            simp only [Act.put, List.setIfInBounds_toArray, List.set_cons_zero, List.set_cons_succ]
            refine takeV 17 (some 89) ((.pointer u)) rfl rfl (by kernel_rfl) (by kernel_rfl) (by kernel_rfl) (fun _ _ _ h => h) (by rfl) (by (intro _w _hSw; (try dsimp only at _hSw); go_simp)) (by assumption) ?_
            simp only [Act.put, List.setIfInBounds_toArray, List.set_cons_zero, List.set_cons_succ]
            refine takeV 18 (some 90) ((.slice (some ⟨a0, 0, none⟩) n c3)) rfl rfl (by kernel_rfl) (by kernel_rfl) (by kernel_rfl) (fun _ _ _ h => h) (by rfl) (by (intro _w _hSw; (try dsimp only at _hSw); go_simp)) (by assumption) ?_
            simp only [Act.put, List.setIfInBounds_toArray, List.set_cons_zero, List.set_cons_succ]
            refine takeV 19 (some 91) ((.int .i64 (j : Nat))) rfl rfl (by kernel_rfl) (by kernel_rfl) (by kernel_rfl) (fun _ _ _ h => h) (by rfl) (by (intro _w _hSw; (try dsimp only at _hSw); go_simp)) (by assumption) ?_
            simp only [Act.put, List.setIfInBounds_toArray, List.set_cons_zero, List.set_cons_succ]
            refine takeV 20 (some 92) ((.pointer (some ⟨a0, j * 2, none⟩))) rfl rfl (by kernel_rfl) (by kernel_rfl) (by kernel_rfl) (fun _ _ _ h => h) (by rfl) (by (intro _w _hSw; (try dsimp only at _hSw); go_simp)) (by assumption) ?_
            simp only [Act.put, List.setIfInBounds_toArray, List.set_cons_zero, List.set_cons_succ]
            refine takeV 21 (some 93) ((.pointer (some ⟨a0, j * 2, none⟩))) rfl rfl (by kernel_rfl) (by kernel_rfl) (by kernel_rfl) (fun _ _ _ h => h) (by rfl) (by (intro _w _hSw; (try dsimp only at _hSw); go_simp)) (by assumption) ?_
            simp only [Act.put, List.setIfInBounds_toArray, List.set_cons_zero, List.set_cons_succ]
            refine takeV 22 (some 94) ((.slice H1 p.1.length k1)) rfl rfl (by kernel_rfl) (by kernel_rfl) (by kernel_rfl) (fun _ _ _ h => h) (by rfl) (by (intro _w hSw; have q0 := ((HU.out _w hSw).cell (p := ⟨a0, j * 2, none⟩) HGL.out).trans HC1.out; clear hSw; go_simp)) (by assumption) ?_
            simp only [Act.put, List.setIfInBounds_toArray, List.set_cons_zero, List.set_cons_succ]
            refine takeV 24 (some 96) ((.int .i64 (j : Nat))) rfl rfl (by kernel_rfl) (by kernel_rfl) (by kernel_rfl) (fun _ _ _ h => h) (by rfl) (by (intro _w _hSw; (try dsimp only at _hSw); go_simp)) (by assumption) ?_
            simp only [Act.put, List.setIfInBounds_toArray, List.set_cons_zero, List.set_cons_succ]
            refine callV 23 rfl (by kernel_rfl) (by rfl) (fun K hK => ?_)
            go_simp
            refine (HRK.out _ hHeld).mono ?_
            rintro e w' ⟨rfl, rfl⟩
            refine hK.out _ _ hHeld (fun hHeld2 => ?_)
            clear hK K hHeld
            have hHeld := hHeld2
            clear hHeld2
            try simp only [Act.put, List.setIfInBounds_toArray, List.set_cons_zero, List.set_cons_succ]
            refine takeV 25 (some 97) ((.bool false)) rfl rfl (by kernel_rfl) (by kernel_rfl) (by kernel_rfl) (fun _ _ _ h => h) (by rfl) (by (intro _w _hSw; (try dsimp only at _hSw); go_simp)) (by assumption) ?_
            simp only [Act.put, List.setIfInBounds_toArray, List.set_cons_zero, List.set_cons_succ]
            refine takeV 26 (some 98) ((.bool false)) rfl rfl (by kernel_rfl) (by kernel_rfl) (by kernel_rfl) (fun _ _ _ h => h) (by rfl) (by (intro _w _hSw; (try dsimp only at _hSw); go_simp)) (by assumption) ?_
            simp only [Act.put, List.setIfInBounds_toArray, List.set_cons_zero, List.set_cons_succ]
            refine takeV 27 (some 99) ((.bool false)) rfl rfl (by kernel_rfl) (by kernel_rfl) (by kernel_rfl) (fun _ _ _ h => h) (by rfl) (by (intro _w _hSw; (try dsimp only at _hSw); go_simp)) (by assumption) ?_
            simp only [Act.put, List.setIfInBounds_toArray, List.set_cons_zero, List.set_cons_succ]
            refine takeV 28 (some 100) ((.int .i64 (j : Nat))) rfl rfl (by kernel_rfl) (by kernel_rfl) (by kernel_rfl) (fun _ _ _ h => h) (by rfl) (by (intro _w _hSw; (try dsimp only at _hSw); go_simp)) (by assumption) ?_
            simp only [Act.put, List.setIfInBounds_toArray, List.set_cons_zero, List.set_cons_succ]
            refine takeV 29 (some 101) ((.bool false)) rfl rfl (by kernel_rfl) (by kernel_rfl) (by kernel_rfl) (fun _ _ _ h => h) (by rfl) (by (intro _w _hSw; (try dsimp only at _hSw); go_simp)) (by assumption) ?_
            simp only [Act.put, List.setIfInBounds_toArray, List.set_cons_zero, List.set_cons_succ]
            refine takeV 30 (some 102) ((.bool false)) rfl rfl (by kernel_rfl) (by kernel_rfl) (by kernel_rfl) (fun _ _ _ h => h) (by rfl) (by (intro _w _hSw; (try dsimp only at _hSw); go_simp)) (by assumption) ?_
            simp only [Act.put, List.setIfInBounds_toArray, List.set_cons_zero, List.set_cons_succ]
            refine skipV 31 (some 103) rfl rfl (by kernel_rfl) (by kernel_rfl) (by kernel_rfl) (fun _ _ _ h => h) (by rfl) (by assumption) ?_
            simp only [Act.put, List.setIfInBounds_toArray, List.set_cons_zero, List.set_cons_succ]
            refine skipV 32 (some 104) rfl rfl (by kernel_rfl) (by kernel_rfl) (by kernel_rfl) (fun _ _ _ h => h) (by rfl) (by assumption) ?_
            simp only [Act.put, List.setIfInBounds_toArray, List.set_cons_zero, List.set_cons_succ]
            refine skipV 33 (some 105) rfl rfl (by kernel_rfl) (by kernel_rfl) (by kernel_rfl) (fun _ _ _ h => h) (by rfl) (by assumption) ?_
            simp only [Act.put, List.setIfInBounds_toArray, List.set_cons_zero, List.set_cons_succ]
            refine skipV 34 (some 106) rfl rfl (by kernel_rfl) (by kernel_rfl) (by kernel_rfl) (fun _ _ _ h => h) (by rfl) (by assumption) ?_
            simp only [Act.put, List.setIfInBounds_toArray, List.set_cons_zero, List.set_cons_succ]
            refine skipV 35 (some 107) rfl rfl (by kernel_rfl) (by kernel_rfl) (by kernel_rfl) (fun _ _ _ h => h) (by rfl) (by assumption) ?_
            simp only [Act.put, List.setIfInBounds_toArray, List.set_cons_zero, List.set_cons_succ]
            refine skipV 36 (some 108) rfl rfl (by kernel_rfl) (by kernel_rfl) (by kernel_rfl) (fun _ _ _ h => h) (by rfl) (by assumption) ?_
            simp only [Act.put, List.setIfInBounds_toArray, List.set_cons_zero, List.set_cons_succ]
            refine skipV 37 (some 109) rfl rfl (by kernel_rfl) (by kernel_rfl) (by kernel_rfl) (fun _ _ _ h => h) (by rfl) (by assumption) ?_
            simp only [Act.put, List.setIfInBounds_toArray, List.set_cons_zero, List.set_cons_succ]
            refine skipV 38 (some 110) rfl rfl (by kernel_rfl) (by kernel_rfl) (by kernel_rfl) (fun _ _ _ h => h) (by rfl) (by assumption) ?_
            simp only [Act.put, List.setIfInBounds_toArray, List.set_cons_zero, List.set_cons_succ]
            refine skipV 39 (some 111) rfl rfl (by kernel_rfl) (by kernel_rfl) (by kernel_rfl) (fun _ _ _ h => h) (by rfl) (by assumption) ?_
            simp only [Act.put, List.setIfInBounds_toArray, List.set_cons_zero, List.set_cons_succ]
            refine skipV 40 (some 112) rfl rfl (by kernel_rfl) (by kernel_rfl) (by kernel_rfl) (fun _ _ _ h => h) (by rfl) (by assumption) ?_
            simp only [Act.put, List.setIfInBounds_toArray, List.set_cons_zero, List.set_cons_succ]
            refine skipV 41 (some 113) rfl rfl (by kernel_rfl) (by kernel_rfl) (by kernel_rfl) (fun _ _ _ h => h) (by rfl) (by assumption) ?_
            simp only [Act.put, List.setIfInBounds_toArray, List.set_cons_zero, List.set_cons_succ]
            refine skipV 42 (some 114) rfl rfl (by kernel_rfl) (by kernel_rfl) (by kernel_rfl) (fun _ _ _ h => h) (by rfl) (by assumption) ?_
            simp only [Act.put, List.setIfInBounds_toArray, List.set_cons_zero, List.set_cons_succ]
            refine skipV 43 (some 115) rfl rfl (by kernel_rfl) (by kernel_rfl) (by kernel_rfl) (fun _ _ _ h => h) (by rfl) (by assumption) ?_
            simp only [Act.put, List.setIfInBounds_toArray, List.set_cons_zero, List.set_cons_succ]
            refine skipV 44 (some 116) rfl rfl (by kernel_rfl) (by kernel_rfl) (by kernel_rfl) (fun _ _ _ h => h) (by rfl) (by assumption) ?_
            simp only [Act.put, List.setIfInBounds_toArray, List.set_cons_zero, List.set_cons_succ]
            refine takeV 45 (some 117) ((.bool false)) rfl rfl (by kernel_rfl) (by kernel_rfl) (by kernel_rfl) (fun _ _ _ h => h) (by rfl) (by (intro _w _hSw; (try dsimp only at _hSw); go_simp)) (by assumption) ?_
            simp only [Act.put, List.setIfInBounds_toArray, List.set_cons_zero, List.set_cons_succ]
            refine takeV 46 (some 118) ((.bool false)) rfl rfl (by kernel_rfl) (by kernel_rfl) (by kernel_rfl) (fun _ _ _ h => h) (by rfl) (by (intro _w _hSw; (try dsimp only at _hSw); go_simp)) (by assumption) ?_
            simp only [Act.put, List.setIfInBounds_toArray, List.set_cons_zero, List.set_cons_succ]
            refine wpAnyH_done (by kernel_rfl) ?_ _
            have HBR := Lib.hid (HB46.out.trans (hHeld.mono HB46.out.size))
            clear hHeld
            go_wp2
            go_roundg gk
            case measure => omega
            case rel => exact ⟨j + 1, by go_num, by omega, HBR.out⟩
end Go.Proofs.Ythldmdcjfeekeaa
