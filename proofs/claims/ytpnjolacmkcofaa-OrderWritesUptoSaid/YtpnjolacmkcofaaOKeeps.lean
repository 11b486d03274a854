/-
  THE LAW OrderKeeps: its walk.
-/
import Derived.Test.YtpnjolacmkcofaaORefC
import Derived.Test.YtpnjolacmkcofaaOEnds
namespace Go.Proofs.Ytpnjolacmkcofaa
open Go.RowKit Go.Shelf

theorem great_is (A : Option Addr) (c : Nat) (l : List PartP) (w : World) (B : Nat) (g : Bool) (hs : SlP w B A l) (hl : l.length ≤ 1048576) (hz : ∀ p ∈ l, p.s.size ≤ 1048576) (hg : decide ((5000 : Int) < costP l) = g) :
    Calls Try.prog 18 #[.slice A l.length c] w fun e w' => e = .returned (.bool g) ∧ w = w' :=
  (great_any A c l w B hs hl hz).mono fun e w' ⟨h, h'⟩ => ⟨by rw [h, hg], h'⟩

theorem valEnd_any {W w' : World} {k n : Int} {s : ByteArray} {e : Ending} (h : ValEnd W k n s e w') : (∃ v g, e = .returned (.tuple #[v, .int .i64 g])) ∧ Below W.heap.size W w' := by
  rcases h with ⟨_, ⟨v, rfl, _⟩, hb⟩ | ⟨_, rfl, hb⟩
  · exact ⟨⟨v, 0, rfl⟩, hb⟩
  · exact ⟨⟨_, 10, rfl⟩, hb⟩
theorem valEnd_may {W w' : World} {k n : Int} {s : ByteArray} {e : Ending} (h : ValEnd W k n s e w') (hm : mayB k n s = true) : ∃ v, e = .returned (.tuple #[v, .int .i64 0]) ∧ OwnB w' W.heap.size v (valB k n s) ∧ Below W.heap.size W w' := by
  rcases h with ⟨_, ⟨v, rfl, ho⟩, hb⟩ | ⟨hn, _⟩
  · exact ⟨v, rfl, ho, hb⟩
  · rw [hm] at hn; cases hn
theorem ownB_form2 {W : World} {B : Nat} {v : Value} {l : List UInt8} (h : OwnB W B v l) : ∃ A c, v = .slice A l.length c ∧ l.length ≤ c := by
  rcases h.2 with ⟨rfl, h0⟩ | ⟨g, cap, cur, rfl, _, _, hnc, _⟩
  · exact ⟨none, 0, by rw [h0], by omega⟩
  · exact ⟨_, _, rfl, hnc⟩

set_option maxRecDepth 100000 in
set_option maxHeartbeats 4000000 in
theorem keeps_any (A A' : Option Addr) (c c' : Nat) (a b : List PartP) (w : World) (hs : SlP w w.heap.size A a) (hs' : SlP w w.heap.size A' b) (hl : a.length ≤ 1048576) (hl' : b.length ≤ 1048576)
    (hz : ∀ p ∈ a, p.s.size ≤ 1048576) (hz' : ∀ p ∈ b, p.s.size ≤ 1048576) (hok : ∀ p ∈ a, partOk p) (hok' : ∀ p ∈ b, partOk p) :
    Calls Try.prog 9 #[.slice A a.length c, .slice A' b.length c'] w fun e w' => e = .returned (.bool true) ∧ Below w.heap.size w w' := by
  have HS := Lib.hid hs
  have HS' := Lib.hid hs'
  have HZ := Lib.hid hz
  have HZ' := Lib.hid hz'
  have HOK := Lib.hid hok
  have HOK' := Lib.hid hok'
  clear hs hs' hz hz' hok hok'
  go_enter Try.func9, Try.ntmps9
  go_wp2_with fail
  refine (alive_any _).mono ?_
  rintro e w1 ⟨rfl, hb1⟩
  have HB1 := Lib.hid hb1
  have HS1 := Lib.hid ((HS.out.next hb1 (Nat.le_refl _)).more hb1.size)
  have HS1' := Lib.hid ((HS'.out.next hb1 (Nat.le_refl _)).more hb1.size)
  clear hb1
  by_cases hga : decide ((5000 : Int) < costP a) = true
  · have HGA := Lib.hid hga
    clear hga
    go_wp2_with fail
    refine (great_is A c a _ _ true HS1.out hl HZ.out HGA.out).mono ?_
    rintro e w2 ⟨rfl, rfl⟩
    go_wp2
    go_ret
    exact ⟨rfl, HB1.out⟩
  have HGA : Hid (decide ((5000 : Int) < costP a) = false) := by show _ = _; simpa using hga
  have hca : costP a ≤ 5000 := by have := HGA.out; rw [decide_eq_false_iff_not] at this; omega
  clear hga
  by_cases hgb : decide ((5000 : Int) < costP b) = true
  · have HGB := Lib.hid hgb
    clear hgb
    go_wp2_with fail
    refine (great_is A c a _ _ false HS1.out hl HZ.out HGA.out).mono ?_
    rintro e w2 ⟨rfl, rfl⟩
    go_wp2_with fail
    refine (great_is A' c' b _ _ true HS1'.out hl' HZ'.out HGB.out).mono ?_
    rintro e w2 ⟨rfl, rfl⟩
    go_wp2
    go_ret
    exact ⟨rfl, HB1.out⟩
  have HGB : Hid (decide ((5000 : Int) < costP b) = false) := by show _ = _; simpa using hgb
  have hcb : costP b ≤ 5000 := by have := HGB.out; rw [decide_eq_false_iff_not] at this; omega
  clear hgb
  have HCA := Lib.hid hca
  have HCB := Lib.hid hcb
  clear hca hcb
  go_wp2_with fail
  refine (great_is A c a _ _ false HS1.out hl HZ.out HGA.out).mono ?_
  rintro e w2 ⟨rfl, rfl⟩
  go_wp2_with fail
  refine (great_is A' c' b _ _ false HS1'.out hl' HZ'.out HGB.out).mono ?_
  rintro e w2 ⟨rfl, rfl⟩
  by_cases hnn : ¬ a.length = b.length
  · have hnb : ((a.length : Int) != (b.length : Int)) = true := by simp; omega
    go_wp2
    go_ret
    exact ⟨rfl, HB1.out⟩
  have hne : a.length = b.length := by omega
  clear hnn
  have hnb : ((a.length : Int) != (b.length : Int)) = false := by simp; omega
  have HNE := Lib.hid hne
  have hla := costP_len a
  have hlb := costP_len b
  have hl5 : a.length ≤ 500 := by have := HCA.out; omega
  have hl5' : b.length ≤ 500 := by have := HCB.out; omega
  clear hne hla hlb hl hl'
  go_wp2
  clear hnb
  go_loopg [6] a.length (fun g x wr => ∃ j n : Nat, x = .int .i64 j ∧ j + g = a.length ∧ wr = w1.drewN n ∧ Hid ((a.take j).map (·.v) = (b.take j).map (·.v)))
  case atStart => exact ⟨0, 0, rfl, by omega, rfl, rfl⟩
  case round =>
    obtain ⟨j, n, rfl, hj, rfl, HV⟩ := hrel
    cases gk with
    | succ g =>
      have hi1 : (j : Int) < (a.length : Int) := by omega
      have h1 : j < a.length := by omega
      have h2 : j < b.length := by have := HNE.out; omega
      obtain ⟨p0, o, rfl, hlt, hp⟩ := HS1.out.at_ h1
      obtain ⟨p0', o', rfl, hlt', hp'⟩ := HS1'.out.at_ h2
      have hi2 : (j : Int) < (b.length : Int) := by omega
      have a0 := hp.c0
      have b0 := hp'.c0
      clear hp hp'
      obtain ⟨u, hu⟩ : ∃ u, a[j].v = u := ⟨_, rfl⟩
      obtain ⟨v, hv⟩ : ∃ v, b[j].v = v := ⟨_, rfl⟩
      rw [hu] at a0
      rw [hv] at b0
      have HU := Lib.hid hu
      have HVv := Lib.hid hv
      clear hu hv
      by_cases huv : u = v
      · subst huv
        cases u
        all_goals
          go_wp2
          go_quiet (fail)
          go_wp2
          go_roundg g
          case measure => omega
          case rel => exact ⟨j + 1, _, by go_num, by omega, rfl, (by show _ = _; rw [List.take_succ_eq_append_getElem h1, List.take_succ_eq_append_getElem h2, List.map_append, List.map_append, HV.out]; simp [HU.out, HVv.out])⟩
      · cases u
        · cases v
          · exact absurd rfl huv
          · clear huv
            go_wp2
            go_quiet (fail)
            go_wp2
            go_ret
            exact ⟨rfl, by first | exact below_dn HB1.out _ | exact below_dn (below_dn HB1.out _) _⟩
        · cases v
          · clear huv
            go_wp2
            go_quiet (fail)
            go_wp2
            go_ret
            exact ⟨rfl, by first | exact below_dn HB1.out _ | exact below_dn (below_dn HB1.out _) _⟩
          · exact absurd rfl huv
    | zero =>
      have hi1 : ¬ (j : Int) < (a.length : Int) := by omega
      have hta : a.take j = a := List.take_of_length_le (by omega)
      have htb : b.take j = b := List.take_of_length_le (by have := HNE.out; omega)
      rw [hta, htb] at HV
      clear hta htb
      have HS2 : Hid (SlP (w1.drewN n) (w1.drewN n).heap.size A a) := HS1.out.drewN n
      go_wp2_with fail
      refine (key_any A c a _ HS2.out HCA.out HOK.out).mono ?_
      rintro e w2 (⟨hma, ⟨v1, rfl, ho1⟩, hb2⟩ | ⟨hma, rfl, hb2⟩)
      · have HMA := Lib.hid hma
        have HO1 := Lib.hid ho1
        have HB2 := Lib.hid ((below_dn HB1.out n).trans (hb2.mono HB1.out.size))
        have hz2 : w1.heap.size ≤ w2.heap.size := hb2.size
        have HS3 := Lib.hid ((HS'.out.next HB2.out (Nat.le_refl _)).more HB2.out.size)
        clear hma ho1 hb2
        go_wp2_with fail
        refine (key_any A' c' b _ HS3.out HCB.out HOK'.out).mono ?_
        rintro e w3 (⟨hmb, ⟨v2, rfl, ho2⟩, hb3⟩ | ⟨hmb, rfl, hb3⟩)
        · have HMB := Lib.hid hmb
          have HO3 := Lib.hid (HO1.out.next hb3)
          have HO4 := Lib.hid ho2
          have HB3 := Lib.hid (HB2.out.trans (hb3.mono HB2.out.size))
          clear hmb ho2 hb3
          obtain ⟨X1, y1, rfl⟩ := ownB_form HO3.out
          obtain ⟨X2, y2, rfl⟩ := ownB_form HO4.out
          have hk1 := keyB_len a
          have hk2 := keyB_len b
          have hk1' : (keyB a).length ≤ 10000 := by have := HCA.out; omega
          have hk2' : (keyB b).length ≤ 10000 := by have := HCB.out; omega
          clear hk1 hk2
          go_wp2
          go_loopg [11] a.length (fun g x wr => ∃ j : Nat, x = .int .i64 j ∧ j + g = a.length ∧ Hid (Below w3.heap.size w3 wr) ∧ w3.heap.size ≤ wr.heap.size)
          case atStart => exact ⟨0, rfl, by omega, Below.refl _ _, Nat.le_refl _⟩
          case round =>
            obtain ⟨j, rfl, hj, HBr, hszr⟩ := hrel
            cases gk with
            | zero =>
              have hi1 : ¬ (j : Int) < (a.length : Int) := by omega
              have HBw := Lib.hid (HB3.out.trans (HBr.out.mono HB3.out.size))
              have S1 := Lib.hid ((SlB.of_own HO3.out).2.next HBr.out (Nat.le_refl _))
              have S2 := Lib.hid ((SlB.of_own HO4.out).2.next HBr.out (Nat.le_refl _))
              have hord := key_ord a b HV.out (fun p hp => ⟨List.all_eq_true.1 HMA.out p hp, HOK.out p hp⟩) (fun p hp => ⟨List.all_eq_true.1 HMB.out p hp, HOK'.out p hp⟩)
              obtain ⟨O, hO⟩ : ∃ O, ordK a b = O := ⟨_, rfl⟩
              rw [hO] at hord
              have C1 : Hid (Calls Try.prog 33 #[.slice X1 (keyB a).length y1, .slice X2 (keyB b).length y2] wr fun e w' => e = .returned (.int .i64 O) ∧ Below wr.heap.size wr w') := by
                show Calls _ _ _ _ _
                rw [← hord]
                exact (bytes_any X1 X2 y1 y2 (keyB a) (keyB b) wr _ S1.out S2.out (by omega) (by omega)).mono fun e w' ⟨h, k, hk⟩ => ⟨h, by rw [hk]; exact below_dn (Below.refl _ _) k⟩
              have C2 : Hid (∀ W, Below wr.heap.size wr W → Calls Try.prog 34 #[.slice A a.length c, .slice A' b.length c'] W fun e w' => e = .returned (.int .i64 O) ∧ Below W.heap.size W w') := fun W hW => by
                rw [← hO]
                have hbw := HBw.out.trans (hW.mono HBw.out.size)
                exact refCmp_any A A' c c' a b W w.heap.size (HS.out.next hbw (Nat.le_refl _)) (HS'.out.next hbw (Nat.le_refl _)) hbw.size (by omega) (by omega) (fun p hp => by have := HCA.out; have := costP_mem hp; omega) (fun p hp => by have := HCB.out; have := costP_mem hp; omega)
              clear hO hord
              go_wp2_with fail
              refine C1.out.mono ?_
              rintro e w4 ⟨rfl, hb4⟩
              have HB4 := Lib.hid hb4
              have HBw4 := Lib.hid (HBw.out.trans (hb4.mono HBw.out.size))
              clear hb4
              go_wp2_with fail
              refine (C2.out _ HB4.out).mono ?_
              rintro e w5 ⟨rfl, hb5⟩
              have HBw5 := Lib.hid (HBw4.out.trans (hb5.mono HBw4.out.size))
              clear hb5
              go_wp2
              go_ret
              exact ⟨rfl, HBw5.out⟩
            | succ g =>
              have hi1 : (j : Int) < (a.length : Int) := by omega
              have h1 : j < a.length := by omega
              have h2 : j < b.length := by have := HNE.out; omega
              have hi2 : (j : Int) < (b.length : Int) := by omega
              have HBw := Lib.hid (HB3.out.trans (HBr.out.mono HB3.out.size))
              have hma := List.all_eq_true.1 HMA.out _ (List.getElem_mem h1)
              have hmb := List.all_eq_true.1 HMB.out _ (List.getElem_mem h2)
              have hoa := HOK.out _ (List.getElem_mem h1)
              have hob := HOK'.out _ (List.getElem_mem h2)
              have hsa : a[j].s.size ≤ 5000 := by have := HCA.out; have := costP_mem (List.getElem_mem h1); omega
              have hsb : b[j].s.size ≤ 5000 := by have := HCB.out; have := costP_mem (List.getElem_mem h2); omega
              have hvv : a[j].v = b[j].v := by
                have h9 := congrArg (fun l => l[j]?) HV.out
                simp only [List.getElem?_map, List.getElem?_eq_getElem h1, List.getElem?_eq_getElem h2] at h9
                simpa using h9
              obtain ⟨p0, o, rfl, hlt, hp⟩ := HS.out.at_ h1
              obtain ⟨p0', o', rfl, hlt', hp'⟩ := HS'.out.at_ h2
              obtain ⟨p, hpe⟩ : ∃ p, a[j] = p := ⟨_, rfl⟩
              obtain ⟨q, hqe⟩ : ∃ q, b[j] = q := ⟨_, rfl⟩
              rw [hpe] at hma hoa hsa hp hvv
              rw [hqe] at hmb hob hsb hp' hvv
              have HP := Lib.hid hp
              have HP' := Lib.hid hp'
              have HMa := Lib.hid hma
              have HMb := Lib.hid hmb
              have HOa := Lib.hid hoa
              have HOb := Lib.hid hob
              have HVV := Lib.hid hvv
              clear hp hp' hma hmb hoa hob hvv hpe hqe
              have hpr := HP.out.next HBw.out hlt
              have a2 := hpr.c2
              have a3 := hpr.c3
              have a4 := hpr.c4
              clear hpr
              cases hv : p.v
              · go_wp2_with fail
                refine (value_any p.k p.m p.s _ hsa HOa.out.2.1 HOa.out.2.2).mono ?_
                rintro e w4 he
                obtain ⟨⟨u1, g1, rfl⟩, hb4⟩ := valEnd_any he
                have HBw4 := Lib.hid (HBw.out.trans (hb4.mono HBw.out.size))
                have HBr4 := Lib.hid (HBr.out.trans (hb4.mono hszr))
                clear he hb4 a2 a3 a4
                have hqr := HP'.out.next HBw4.out hlt'
                have b2 := hqr.c2
                have b3 := hqr.c3
                have b4 := hqr.c4
                clear hqr
                go_wp2_with fail
                refine (value_any q.k q.m q.s _ hsb HOb.out.2.1 HOb.out.2.2).mono ?_
                rintro e w5 he
                obtain ⟨⟨u2, g2, rfl⟩, hb5⟩ := valEnd_any he
                have HBw5 := Lib.hid (HBw4.out.trans (hb5.mono HBw4.out.size))
                have HBr5 := Lib.hid (HBr4.out.trans (hb5.mono HBr4.out.size))
                clear he hb5 b2 b3 b4
                have a0 := (HP.out.next HBw5.out hlt).c0
                rw [hv] at a0
                clear hv
                go_wp2
                go_quiet (fail)
                go_wp2
                go_roundg g
                case measure => omega
                case rel => exact ⟨j + 1, by go_num, by omega, below_dn HBr5.out _, HBr5.out.size⟩
              · have hm1 : mayB p.k p.m p.s = true := by have := HMa.out; unfold partMay at this; rw [hv] at this; simpa using this
                have hm2 : mayB q.k q.m q.s = true := by have := HMb.out; unfold partMay at this; rw [← HVV.out, hv] at this; simpa using this
                have HM1 := Lib.hid hm1
                have HM2 := Lib.hid hm2
                clear hm1 hm2
                go_wp2_with fail
                refine (value_any p.k p.m p.s _ hsa HOa.out.2.1 HOa.out.2.2).mono ?_
                rintro e w4 he
                obtain ⟨u1, rfl, ho5, hb4⟩ := valEnd_may he HM1.out
                have HO5 := Lib.hid ho5
                have HBw4 := Lib.hid (HBw.out.trans (hb4.mono HBw.out.size))
                have HBr4 := Lib.hid (HBr.out.trans (hb4.mono hszr))
                clear he ho5 hb4 a2 a3 a4
                have hqr := HP'.out.next HBw4.out hlt'
                have b2 := hqr.c2
                have b3 := hqr.c3
                have b4 := hqr.c4
                clear hqr
                go_wp2_with fail
                refine (value_any q.k q.m q.s _ hsb HOb.out.2.1 HOb.out.2.2).mono ?_
                rintro e w5 he
                obtain ⟨u2, rfl, ho6, hb5⟩ := valEnd_may he HM2.out
                have HBw5 := Lib.hid (HBw4.out.trans (hb5.mono HBw4.out.size))
                have HBr5 := Lib.hid (HBr4.out.trans (hb5.mono HBr4.out.size))
                obtain ⟨Y1, z1, rfl⟩ := ownB_form HO5.out
                obtain ⟨Y2, z2, hu2, hz2'⟩ := ownB_form2 ho6
                subst hu2
                have T1 := Lib.hid ((SlB.of_own HO5.out).2.next hb5 (Nat.le_refl _))
                have T2 := Lib.hid (SlB.of_own ho6).2
                have hsz45 : w4.heap.size ≤ w5.heap.size := hb5.size
                clear he ho6 hb5 b2 b3 b4
                obtain ⟨l1, hl1⟩ : ∃ l1, valB p.k p.m p.s = l1 := ⟨_, rfl⟩
                obtain ⟨l2, hl2⟩ : ∃ l2, valB q.k q.m q.s = l2 := ⟨_, rfl⟩
                rw [hl1] at T1
                rw [hl2] at T2 hz2'
                rw [hl1, hl2]
                have HL1 := Lib.hid hl1
                have HL2 := Lib.hid hl2
                clear hl1 hl2
                have a0 := (HP.out.next HBw5.out hlt).c0
                rw [hv] at a0
                have HVT := Lib.hid hv
                clear hv
                have hcv := fun n => slB_string (T1.out.drewN n) z1
                by_cases hle : (l1.length : Int) ≤ (l2.length : Int)
                · have hcw := fun n => slB_string ((T2.out.take l1.length).drewN n) z2
                  have hlt9 : (l2.take l1.length).length = l1.length := by rw [List.length_take]; omega
                  rw [hlt9] at hcw
                  have hb1 : (l1.length : Int) ≤ (z2 : Int) := by omega
                  have hb0 : (0 : Int) ≤ (l1.length : Int) := by omega
                  have hbt : ((l1.length : Int)).toNat = l1.length := by omega
                  by_cases hpre : l1 <+: l2
                  · have hvo := val_apart HM1.out HM2.out HOa.out.2 HOb.out.2 (by rw [HL1.out, HL2.out]; exact hpre)
                    have HVO := Lib.hid hvo
                    have HLT9 := Lib.hid hlt9
                    have hq : (List.take l1.length l2 == l1) = true := by rw [(pre_take.1 hpre).2]; simp
                    have HPA := Lib.hid (HP.out.next HBw5.out hlt)
                    have HQA := Lib.hid (HP'.out.next HBw5.out hlt')
                    have hp5 : p0 < w5.heap.size := Nat.lt_of_lt_of_le hlt HBw5.out.size
                    have hq5 : p0' < w5.heap.size := Nat.lt_of_lt_of_le hlt' HBw5.out.size
                    have hi3 : (0 : Int) ≤ (j : Int) := by omega
                    clear hvo hlt9 hpre hcv hcw a0
                    go_wp2_with fail
                    refine wp_region_held_drew (S := fun W => Below w5.heap.size w5 W) (by kernel_rfl) ((Below.refl _ w5).drew) (fun hHeld => ?_)
                    refine takeV 0 (some 94) ((.slice (some ⟨p0, o, none⟩) a.length c)) rfl rfl (by kernel_rfl) (by kernel_rfl) (by kernel_rfl) (fun _ _ _ h => h) (by rfl) (by (intro _w _hSw; (try dsimp only at _hSw); go_simp)) (by assumption) ?_
                    simp only [Act.put, List.setIfInBounds_toArray, List.set_cons_zero, List.set_cons_succ]
                    refine takeV 1 (some 95) ((.int .i64 j)) rfl rfl (by kernel_rfl) (by kernel_rfl) (by kernel_rfl) (fun _ _ _ h => h) (by rfl) (by (intro _w _hSw; (try dsimp only at _hSw); go_simp)) (by assumption) ?_
                    simp only [Act.put, List.setIfInBounds_toArray, List.set_cons_zero, List.set_cons_succ]
                    refine takeV 2 (some 96) ((.pointer (some ⟨p0, o + j * 5, none⟩))) rfl rfl (by kernel_rfl) (by kernel_rfl) (by kernel_rfl) (fun _ _ _ h => h) (by rfl) (by (intro _w _hSw; (try dsimp only at _hSw); go_simp)) (by assumption) ?_
                    simp only [Act.put, List.setIfInBounds_toArray, List.set_cons_zero, List.set_cons_succ]
                    refine takeV 3 (some 97) ((.pointer (some ⟨p0, o + j * 5, none⟩))) rfl rfl (by kernel_rfl) (by kernel_rfl) (by kernel_rfl) (fun _ _ _ h => h) (by rfl) (by (intro _w _hSw; (try dsimp only at _hSw); go_simp)) (by assumption) ?_
                    simp only [Act.put, List.setIfInBounds_toArray, List.set_cons_zero, List.set_cons_succ]
                    refine takeV 4 (some 98) ((.bool true)) rfl rfl (by kernel_rfl) (by kernel_rfl) (by kernel_rfl) (fun _ _ _ h => h) (by rfl) (by (intro _w hSw; have q0 := (HPA.out.next hSw hp5).c0; rw [HVT.out] at q0; clear hSw; go_simp)) (by assumption) ?_
                    simp only [Act.put, List.setIfInBounds_toArray, List.set_cons_zero, List.set_cons_succ]
                    refine takeV 5 (some 99) ((.bool true)) rfl rfl (by kernel_rfl) (by kernel_rfl) (by kernel_rfl) (fun _ _ _ h => h) (by rfl) (by (intro _w _hSw; (try dsimp only at _hSw); go_simp)) (by assumption) ?_
                    simp only [Act.put, List.setIfInBounds_toArray, List.set_cons_zero, List.set_cons_succ]
                    refine takeV 6 (some 100) ((.int .i64 0)) rfl rfl (by kernel_rfl) (by kernel_rfl) (by kernel_rfl) (fun _ _ _ h => h) (by rfl) (by (intro _w _hSw; (try dsimp only at _hSw); go_simp)) (by assumption) ?_
                    simp only [Act.put, List.setIfInBounds_toArray, List.set_cons_zero, List.set_cons_succ]
                    refine takeV 7 (some 101) ((.bool false)) rfl rfl (by kernel_rfl) (by kernel_rfl) (by kernel_rfl) (fun _ _ _ h => h) (by rfl) (by (intro _w _hSw; (try dsimp only at _hSw); go_simp)) (by assumption) ?_
                    simp only [Act.put, List.setIfInBounds_toArray, List.set_cons_zero, List.set_cons_succ]
                    refine takeV 8 (some 102) ((.bool false)) rfl rfl (by kernel_rfl) (by kernel_rfl) (by kernel_rfl) (fun _ _ _ h => h) (by rfl) (by (intro _w _hSw; (try dsimp only at _hSw); go_simp)) (by assumption) ?_
                    simp only [Act.put, List.setIfInBounds_toArray, List.set_cons_zero, List.set_cons_succ]
                    refine takeV 9 (some 103) ((.int .i64 0)) rfl rfl (by kernel_rfl) (by kernel_rfl) (by kernel_rfl) (fun _ _ _ h => h) (by rfl) (by (intro _w _hSw; (try dsimp only at _hSw); go_simp)) (by assumption) ?_
                    simp only [Act.put, List.setIfInBounds_toArray, List.set_cons_zero, List.set_cons_succ]
                    refine takeV 10 (some 104) ((.bool false)) rfl rfl (by kernel_rfl) (by kernel_rfl) (by kernel_rfl) (fun _ _ _ h => h) (by rfl) (by (intro _w _hSw; (try dsimp only at _hSw); go_simp)) (by assumption) ?_
                    simp only [Act.put, List.setIfInBounds_toArray, List.set_cons_zero, List.set_cons_succ]
                    refine takeV 11 (some 105) ((.bool false)) rfl rfl (by kernel_rfl) (by kernel_rfl) (by kernel_rfl) (fun _ _ _ h => h) (by rfl) (by (intro _w _hSw; (try dsimp only at _hSw); go_simp)) (by assumption) ?_
                    simp only [Act.put, List.setIfInBounds_toArray, List.set_cons_zero, List.set_cons_succ]
                    refine takeV 12 (some 106) ((.bool false)) rfl rfl (by kernel_rfl) (by kernel_rfl) (by kernel_rfl) (fun _ _ _ h => h) (by rfl) (by (intro _w _hSw; (try dsimp only at _hSw); go_simp)) (by assumption) ?_
                    simp only [Act.put, List.setIfInBounds_toArray, List.set_cons_zero, List.set_cons_succ]
                    refine takeV 13 (some 107) ((.slice Y1 l1.length z1)) rfl rfl (by kernel_rfl) (by kernel_rfl) (by kernel_rfl) (fun _ _ _ h => h) (by rfl) (by (intro _w _hSw; (try dsimp only at _hSw); go_simp)) (by assumption) ?_
                    simp only [Act.put, List.setIfInBounds_toArray, List.set_cons_zero, List.set_cons_succ]
                    refine takeV 14 (some 108) ((.int .i64 l1.length)) rfl rfl (by kernel_rfl) (by kernel_rfl) (by kernel_rfl) (fun _ _ _ h => h) (by rfl) (by (intro _w _hSw; (try dsimp only at _hSw); go_simp)) (by assumption) ?_
                    simp only [Act.put, List.setIfInBounds_toArray, List.set_cons_zero, List.set_cons_succ]
                    refine takeV 15 (some 109) ((.slice Y2 l2.length z2)) rfl rfl (by kernel_rfl) (by kernel_rfl) (by kernel_rfl) (fun _ _ _ h => h) (by rfl) (by (intro _w _hSw; (try dsimp only at _hSw); go_simp)) (by assumption) ?_
                    simp only [Act.put, List.setIfInBounds_toArray, List.set_cons_zero, List.set_cons_succ]
                    refine takeV 16 (some 110) ((.int .i64 l2.length)) rfl rfl (by kernel_rfl) (by kernel_rfl) (by kernel_rfl) (fun _ _ _ h => h) (by rfl) (by (intro _w _hSw; (try dsimp only at _hSw); go_simp)) (by assumption) ?_
                    simp only [Act.put, List.setIfInBounds_toArray, List.set_cons_zero, List.set_cons_succ]
                    refine takeV 17 (some 111) ((.bool true)) rfl rfl (by kernel_rfl) (by kernel_rfl) (by kernel_rfl) (fun _ _ _ h => h) (by rfl) (by (intro _w _hSw; (try dsimp only at _hSw); go_simp)) (by assumption) ?_
                    simp only [Act.put, List.setIfInBounds_toArray, List.set_cons_zero, List.set_cons_succ]
                    refine takeV 18 (some 112) ((.bool true)) rfl rfl (by kernel_rfl) (by kernel_rfl) (by kernel_rfl) (fun _ _ _ h => h) (by rfl) (by (intro _w _hSw; (try dsimp only at _hSw); go_simp)) (by assumption) ?_
                    simp only [Act.put, List.setIfInBounds_toArray, List.set_cons_zero, List.set_cons_succ]
                    refine takeV 19 (some 113) ((.slice Y2 l2.length z2)) rfl rfl (by kernel_rfl) (by kernel_rfl) (by kernel_rfl) (fun _ _ _ h => h) (by rfl) (by (intro _w _hSw; (try dsimp only at _hSw); go_simp)) (by assumption) ?_
                    simp only [Act.put, List.setIfInBounds_toArray, List.set_cons_zero, List.set_cons_succ]
                    refine takeV 20 (some 114) ((.slice Y1 l1.length z1)) rfl rfl (by kernel_rfl) (by kernel_rfl) (by kernel_rfl) (fun _ _ _ h => h) (by rfl) (by (intro _w _hSw; (try dsimp only at _hSw); go_simp)) (by assumption) ?_
                    simp only [Act.put, List.setIfInBounds_toArray, List.set_cons_zero, List.set_cons_succ]
                    refine takeV 21 (some 115) ((.int .i64 l1.length)) rfl rfl (by kernel_rfl) (by kernel_rfl) (by kernel_rfl) (fun _ _ _ h => h) (by rfl) (by (intro _w _hSw; (try dsimp only at _hSw); go_simp)) (by assumption) ?_
                    simp only [Act.put, List.setIfInBounds_toArray, List.set_cons_zero, List.set_cons_succ]
                    refine takeV 22 (some 116) ((.slice Y2 l1.length z2)) rfl rfl (by kernel_rfl) (by kernel_rfl) (by kernel_rfl) (fun _ _ _ h => h) (by rfl) (by (intro _w _hSw; (try dsimp only at _hSw); go_simp)) (by assumption) ?_
                    simp only [Act.put, List.setIfInBounds_toArray, List.set_cons_zero, List.set_cons_succ]
                    refine takeV 23 (some 117) ((.string ⟨(l2.take l1.length).toArray⟩)) rfl rfl (by kernel_rfl) (by kernel_rfl) (by kernel_rfl) (fun _ _ _ h => h) (by rfl) (by (intro _w hSw; have q1 := slB_string ((T2.out.take l1.length).next hSw (Nat.le_refl _)) z2; rw [HLT9.out] at q1; clear hSw; go_simp)) (by assumption) ?_
                    simp only [Act.put, List.setIfInBounds_toArray, List.set_cons_zero, List.set_cons_succ]
                    refine takeV 24 (some 118) ((.slice Y1 l1.length z1)) rfl rfl (by kernel_rfl) (by kernel_rfl) (by kernel_rfl) (fun _ _ _ h => h) (by rfl) (by (intro _w _hSw; (try dsimp only at _hSw); go_simp)) (by assumption) ?_
                    simp only [Act.put, List.setIfInBounds_toArray, List.set_cons_zero, List.set_cons_succ]
                    refine takeV 25 (some 119) ((.string ⟨l1.toArray⟩)) rfl rfl (by kernel_rfl) (by kernel_rfl) (by kernel_rfl) (fun _ _ _ h => h) (by rfl) (by (intro _w hSw; have q1 := slB_string (T1.out.next hSw hsz45) z1; clear hSw; go_simp)) (by assumption) ?_
                    simp only [Act.put, List.setIfInBounds_toArray, List.set_cons_zero, List.set_cons_succ]
                    refine takeV 26 (some 120) ((.bool true)) rfl rfl (by kernel_rfl) (by kernel_rfl) (by kernel_rfl) (fun _ _ _ h => h) (by rfl) (by (intro _w _hSw; (try dsimp only at _hSw); go_simp)) (by assumption) ?_
                    simp only [Act.put, List.setIfInBounds_toArray, List.set_cons_zero, List.set_cons_succ]
                    refine takeV 27 (some 121) ((.bool true)) rfl rfl (by kernel_rfl) (by kernel_rfl) (by kernel_rfl) (fun _ _ _ h => h) (by rfl) (by (intro _w _hSw; (try dsimp only at _hSw); go_simp)) (by assumption) ?_
                    simp only [Act.put, List.setIfInBounds_toArray, List.set_cons_zero, List.set_cons_succ]
                    refine takeV 28 (some 122) ((.bool true)) rfl rfl (by kernel_rfl) (by kernel_rfl) (by kernel_rfl) (fun _ _ _ h => h) (by rfl) (by (intro _w _hSw; (try dsimp only at _hSw); go_simp)) (by assumption) ?_
                    simp only [Act.put, List.setIfInBounds_toArray, List.set_cons_zero, List.set_cons_succ]
                    refine takeV 29 (some 123) ((.slice (some ⟨p0, o, none⟩) a.length c)) rfl rfl (by kernel_rfl) (by kernel_rfl) (by kernel_rfl) (fun _ _ _ h => h) (by rfl) (by (intro _w _hSw; (try dsimp only at _hSw); go_simp)) (by assumption) ?_
                    simp only [Act.put, List.setIfInBounds_toArray, List.set_cons_zero, List.set_cons_succ]
                    refine takeV 30 (some 124) ((.int .i64 j)) rfl rfl (by kernel_rfl) (by kernel_rfl) (by kernel_rfl) (fun _ _ _ h => h) (by rfl) (by (intro _w _hSw; (try dsimp only at _hSw); go_simp)) (by assumption) ?_
                    simp only [Act.put, List.setIfInBounds_toArray, List.set_cons_zero, List.set_cons_succ]
                    refine takeV 31 (some 125) ((.pointer (some ⟨p0, o + j * 5, none⟩))) rfl rfl (by kernel_rfl) (by kernel_rfl) (by kernel_rfl) (fun _ _ _ h => h) (by rfl) (by (intro _w _hSw; (try dsimp only at _hSw); go_simp)) (by assumption) ?_
                    simp only [Act.put, List.setIfInBounds_toArray, List.set_cons_zero, List.set_cons_succ]
                    refine takeV 32 (some 126) ((.pointer (some ⟨p0, o + j * 5 + 2, none⟩))) rfl rfl (by kernel_rfl) (by kernel_rfl) (by kernel_rfl) (fun _ _ _ h => h) (by rfl) (by (intro _w _hSw; (try dsimp only at _hSw); go_simp)) (by assumption) ?_
                    simp only [Act.put, List.setIfInBounds_toArray, List.set_cons_zero, List.set_cons_succ]
                    refine takeV 33 (some 127) ((.agg #[.int .i64 p.k, .int .i64 p.m, .string p.s])) rfl rfl (by kernel_rfl) (by kernel_rfl) (by kernel_rfl) (fun _ _ _ h => h) (by rfl) (by (intro _w hSw; have q2 := (HPA.out.next hSw hp5).c2; have q3 := (HPA.out.next hSw hp5).c3; have q4 := (HPA.out.next hSw hp5).c4; clear hSw; go_simp)) (by assumption) ?_
                    simp only [Act.put, List.setIfInBounds_toArray, List.set_cons_zero, List.set_cons_succ]
                    refine takeV 34 (some 128) ((.slice (some ⟨p0', o', none⟩) b.length c')) rfl rfl (by kernel_rfl) (by kernel_rfl) (by kernel_rfl) (fun _ _ _ h => h) (by rfl) (by (intro _w _hSw; (try dsimp only at _hSw); go_simp)) (by assumption) ?_
                    simp only [Act.put, List.setIfInBounds_toArray, List.set_cons_zero, List.set_cons_succ]
                    refine takeV 35 (some 129) ((.int .i64 j)) rfl rfl (by kernel_rfl) (by kernel_rfl) (by kernel_rfl) (fun _ _ _ h => h) (by rfl) (by (intro _w _hSw; (try dsimp only at _hSw); go_simp)) (by assumption) ?_
                    simp only [Act.put, List.setIfInBounds_toArray, List.set_cons_zero, List.set_cons_succ]
                    refine takeV 36 (some 130) ((.pointer (some ⟨p0', o' + j * 5, none⟩))) rfl rfl (by kernel_rfl) (by kernel_rfl) (by kernel_rfl) (fun _ _ _ h => h) (by rfl) (by (intro _w _hSw; (try dsimp only at _hSw); go_simp)) (by assumption) ?_
                    simp only [Act.put, List.setIfInBounds_toArray, List.set_cons_zero, List.set_cons_succ]
                    refine takeV 37 (some 131) ((.pointer (some ⟨p0', o' + j * 5 + 2, none⟩))) rfl rfl (by kernel_rfl) (by kernel_rfl) (by kernel_rfl) (fun _ _ _ h => h) (by rfl) (by (intro _w _hSw; (try dsimp only at _hSw); go_simp)) (by assumption) ?_
                    simp only [Act.put, List.setIfInBounds_toArray, List.set_cons_zero, List.set_cons_succ]
                    refine takeV 38 (some 132) ((.agg #[.int .i64 q.k, .int .i64 q.m, .string q.s])) rfl rfl (by kernel_rfl) (by kernel_rfl) (by kernel_rfl) (fun _ _ _ h => h) (by rfl) (by (intro _w hSw; have q2 := (HQA.out.next hSw hq5).c2; have q3 := (HQA.out.next hSw hq5).c3; have q4 := (HQA.out.next hSw hq5).c4; clear hSw; go_simp)) (by assumption) ?_
                    simp only [Act.put, List.setIfInBounds_toArray, List.set_cons_zero, List.set_cons_succ]
                    refine callV 39 rfl (by kernel_rfl) (by rfl) (fun K hK => ?_)
                    go_simp
                    go_at_call 13
                    refine (compare_any _ _ _ _ _ _ _).mono ?_
                    rintro e w6 ⟨he, hb6⟩
                    rw [HVO.out] at he
                    subst he
                    have g6 := hHeld.trans (hb6.mono hHeld.size)
                    refine hK.out _ _ g6 (fun hHeld6 => ?_)
                    clear hK g6 K hHeld hb6
                    try simp only [Act.put, List.setIfInBounds_toArray, List.set_cons_zero, List.set_cons_succ]
                    refine takeV 40 (some 134) ((.bool false)) rfl rfl (by kernel_rfl) (by kernel_rfl) (by kernel_rfl) (fun _ _ _ h => h) (by rfl) (by (intro _w _hSw; (try dsimp only at _hSw); go_simp)) (by assumption) ?_
                    simp only [Act.put, List.setIfInBounds_toArray, List.set_cons_zero, List.set_cons_succ]
                    refine takeV 41 (some 135) ((.bool false)) rfl rfl (by kernel_rfl) (by kernel_rfl) (by kernel_rfl) (fun _ _ _ h => h) (by rfl) (by (intro _w _hSw; (try dsimp only at _hSw); go_simp)) (by assumption) ?_
                    simp only [Act.put, List.setIfInBounds_toArray, List.set_cons_zero, List.set_cons_succ]
                    refine takeV 42 (some 136) ((.bool false)) rfl rfl (by kernel_rfl) (by kernel_rfl) (by kernel_rfl) (fun _ _ _ h => h) (by rfl) (by (intro _w _hSw; (try dsimp only at _hSw); go_simp)) (by assumption) ?_
                    simp only [Act.put, List.setIfInBounds_toArray, List.set_cons_zero, List.set_cons_succ]
                    refine takeV 43 (some 137) ((.bool false)) rfl rfl (by kernel_rfl) (by kernel_rfl) (by kernel_rfl) (fun _ _ _ h => h) (by rfl) (by (intro _w _hSw; (try dsimp only at _hSw); go_simp)) (by assumption) ?_
                    simp only [Act.put, List.setIfInBounds_toArray, List.set_cons_zero, List.set_cons_succ]
                    refine wpAnyH_done (by kernel_rfl) ?_ _
                    clear hbt hq
                    go_wp2
                    go_roundg g
                    case measure => omega
                    case rel => exact ⟨j + 1, by go_num, by omega, HBr5.out.trans (hHeld6.mono HBr5.out.size), Nat.le_trans HBr5.out.size hHeld6.size⟩
                  · have hq : (List.take l1.length l2 == l1) = false := by
                      rw [beq_eq_false_iff_ne]
                      exact fun h => hpre (pre_take.2 ⟨by omega, h⟩)
                    have hq' : ((⟨(List.take l1.length l2).toArray⟩ : ByteArray).toList == (⟨l1.toArray⟩ : ByteArray).toList) = false := by rw [ByteArray.toList_eq, ByteArray.toList_eq]; exact hq
                    clear hpre hlt9
                    go_wp2
                    go_quiet (fail)
                    clear hcv hcw hbt
                    go_wp2
                    go_roundg g
                    case measure => omega
                    case rel => exact ⟨j + 1, by go_num, by omega, below_dn HBr5.out _, HBr5.out.size⟩
                · have hd : decide (l1.length ≤ l2.length) = false := by rw [decide_eq_false_iff_not]; omega
                  go_wp2
                  go_quiet (fail)
                  clear hcv
                  go_wp2
                  go_roundg g
                  case measure => omega
                  case rel => exact ⟨j + 1, by go_num, by omega, below_dn HBr5.out _, HBr5.out.size⟩
        · have HB3 := Lib.hid (HB2.out.trans (hb3.mono HB2.out.size))
          clear hb3
          go_wp2
          go_ret
          exact ⟨rfl, HB3.out⟩
      · have HB2 := Lib.hid ((below_dn HB1.out n).trans (hb2.mono HB1.out.size))
        have HS3 := Lib.hid ((HS'.out.next HB2.out (Nat.le_refl _)).more HB2.out.size)
        clear hma hb2
        go_wp2_with fail
        refine (key_any A' c' b _ HS3.out HCB.out HOK'.out).mono ?_
        rintro e w3 (⟨hmb, ⟨v2, rfl, ho2⟩, hb3⟩ | ⟨hmb, rfl, hb3⟩)
        · have HB3 := Lib.hid (HB2.out.trans (hb3.mono HB2.out.size))
          clear hb3 ho2
          go_wp2
          go_ret
          exact ⟨rfl, HB3.out⟩
        · have HB3 := Lib.hid (HB2.out.trans (hb3.mono HB2.out.size))
          clear hb3
          go_wp2
          go_ret
          exact ⟨rfl, HB3.out⟩

end Go.Proofs.Ytpnjolacmkcofaa
