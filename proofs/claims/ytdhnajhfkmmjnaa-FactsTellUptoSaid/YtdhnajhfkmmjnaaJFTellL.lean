/-
  THE LAW FactsTell, at a run.
-/
import Derived.Test.YtdhnajhfkmmjnaaJFTellE
import Derived.Test.YtdhnajhfkmmjnaaJFGreatF
import Derived.Test.YtdhnajhfkmmjnaaJFSameA
import Derived.Test.YtdhnajhfkmmjnaaJFFindR
namespace Go.Proofs.Ytdhnajhfkmmjnaa
open Go.RowKit Go.Shelf

set_option maxRecDepth 100000 in
set_option maxHeartbeats 4000000 in
theorem tell_spans (A : Option Addr) (c : Nat) (old : List FactP) (W : World) (e a k m : Int) (s : ByteArray) (H1 : TellA W A c old) (hl : old.length ≤ 150) (hs : sumS old ≤ 750) (hss : s.size ≤ maxLen) :
    (Calls Try.prog 17 #[.slice A old.length c, .int .i64 e, .int .i64 a, .agg #[.int .i64 k, .int .i64 m, .string s]] W (SgEnd W (e, a, k, m, s) old)) ∧
    Calls Try.prog 18 #[.slice A old.length c, .int .i64 e, .int .i64 a, .agg #[.int .i64 k, .int .i64 m, .string s]] W (SgEnd W (e, a, k, m, s) old) := by
  have hz : ∀ f ∈ old, f.s.size ≤ maxLen ∧ f.l.length ≤ 100000 := fun f hf => ⟨H1.z f hf, by have := sumS_mem hf; omega⟩
  refine ⟨(spansF_any A c old e a k m s W H1.f (by omega) hz).mono fun en w' h => ?_, (refSpansF_any A c old e a k m s W H1.f H1.n (by omega) hz hss).mono fun en w' h => ?_⟩
  · obtain ⟨⟨v, ec, rfl, h⟩, hb⟩ := h
    rcases h with ⟨h1, rfl, h2⟩ | ⟨h1, rfl, rfl⟩
    · exact sgEnd_yes h1 h2.a hb
    · exact sgEnd_no h1 hb
  · obtain ⟨⟨v, ec, rfl, h⟩, hb⟩ := h
    rcases h with ⟨h1, rfl, h2⟩ | ⟨h1, rfl, rfl⟩
    · exact sgEnd_yes h1 h2 hb
    · exact sgEnd_no h1 hb
theorem tell_at (t9 : Int) (A : Option Addr) (c : Nat) (old : List FactP) (W : World) (H1 : TellA W A c old) (hl : old.length ≤ 150) (hs : sumS old ≤ 750) :
    (Calls Try.prog 11 #[.slice A old.length c, .int .i64 t9] W (AtEnd W t9 old)) ∧ Calls Try.prog 12 #[.slice A old.length c, .int .i64 t9] W (AtEnd W t9 old) := by
  have hz : ∀ f ∈ old, f.s.size ≤ maxLen ∧ f.l.length ≤ 100000 := fun f hf => ⟨H1.z f hf, by have := sumS_mem hf; omega⟩
  refine ⟨(at_any t9 A c old W H1.f (by omega) hz).mono fun en w' h => ?_, (refAt_any t9 A c old W H1.f (by omega) hz).mono fun en w' h => ?_⟩
  · obtain ⟨⟨v, ec, rfl, h⟩, hb⟩ := h
    rcases h with ⟨h1, rfl, h2⟩ | ⟨h1, rfl, rfl⟩
    · exact atEnd_yes h1 h2.a hb
    · exact atEnd_no h1 hb
  · obtain ⟨⟨v, ec, rfl, h⟩, hb⟩ := h
    rcases h with ⟨h1, rfl, h2⟩ | ⟨h1, rfl, rfl⟩
    · exact atEnd_yes h1 h2 hb
    · exact atEnd_no h1 hb
theorem tell_chg (t : Int) (A B : Option Addr) (c d : Nat) (old now : List FactP) (W : World) (H1 : TellA W A c old) (H2 : TellA W B d now) (hl1 : old.length ≤ 150) (hs1 : sumS old ≤ 750) (hl2 : now.length ≤ 150) (hs2 : sumS now ≤ 750) :
    (Calls Try.prog 13 #[.slice A old.length c, .slice B now.length d, .int .i64 t] W (CgEnd W old now t)) ∧ Calls Try.prog 14 #[.slice A old.length c, .slice B now.length d, .int .i64 t] W (CgEnd W old now t) := by
  have z1 : ∀ f ∈ old, f.s.size ≤ maxLen ∧ f.l.length ≤ 1000 := fun f hf => ⟨H1.z f hf, by have := sumS_mem hf; omega⟩
  have z2 : ∀ f ∈ now, f.s.size ≤ maxLen ∧ f.l.length ≤ 1000 := fun f hf => ⟨H2.z f hf, by have := sumS_mem hf; omega⟩
  exact ⟨(changes_any t A B c d old now W H1.f H2.f (by omega) (by omega) (fun f hf => ⟨(z1 f hf).1, by have := (z1 f hf).2; omega⟩) (fun f hf => ⟨(z2 f hf).1, by have := (z2 f hf).2; omega⟩) H1.k H2.k (by omega)).mono fun _ _ h => cgEnd_of h,
    (refChanges_any t A B c d old now W H1.f H2.f H1.n H2.n (by omega) (by omega) z1 z2).mono fun _ _ h => cgEnd_of h⟩
theorem tell_may (A : Option Addr) (c : Nat) (old : List FactP) (W : World) (H1 : TellA W A c old) (hl : old.length ≤ 150) (hs : sumS old ≤ 750) :
    (Calls Try.prog 10 #[.slice A old.length c] W fun e w' => e = .returned (.int .i64 (atE old)) ∧ Below W.heap.size W w') ∧ Calls Try.prog 9 #[.slice A old.length c] W fun e w' => e = .returned (.bool (mayFs old)) ∧ Below W.heap.size W w' := by
  have hz : ∀ f ∈ old, f.s.size ≤ maxLen ∧ f.l.length ≤ 100000 := fun f hf => ⟨H1.z f hf, by have := sumS_mem hf; omega⟩
  exact ⟨checkF_any A c old W H1.f (by omega) hz, refMayF_any A c old W H1.f (by omega) hz⟩
/-- the law, from its great lists on -/
theorem tell_main (n t9 t : Int) (A B : Option Addr) (c d : Nat) (old now : List FactP) (w : World) (H1 : TellA w A c old) (H2 : TellA w B d now) :
    Calls Try.prog 3 #[.slice A old.length c, .slice B now.length d, .int .i64 n, .int .i64 t9, .int .i64 t] w (TOk w) := by
  have HG1 := Lib.hid (greatF_upto A c old w H1.f H1.u.1 H1.u.2)
  have HG2 := Lib.hid (fun X (h : Below w.heap.size w X) => greatF_upto B d now X (H2.f.next h) H2.u.1 H2.u.2)
  have HA := Lib.hid H1
  have HBn := Lib.hid H2
  clear H1 H2
  go_enter Try.func3, Try.ntmps3
  go_wp2_with fail
  refine HG1.out.mono ?_
  rintro e9 w1 ⟨⟨rfl, hl1, hs1⟩ | rfl, hb1⟩
  rotate_left
  · have HB := Lib.hid hb1
    clear hb1
    go_wp2
    go_ret
    exact ⟨rfl, HB.out⟩
  have HB1 := Lib.hid hb1
  clear hb1
  go_wp2_with fail
  refine (HG2.out _ HB1.out).mono ?_
  rintro e9 w2 ⟨⟨rfl, hl2, hs2⟩ | rfl, hb2⟩
  rotate_left
  · have HB := Lib.hid (HB1.out.trans (hb2.mono HB1.out.size))
    clear hb2
    go_wp2
    go_ret
    exact ⟨rfl, HB.out⟩
  have HB2 := Lib.hid (HB1.out.trans (hb2.mono HB1.out.size))
  have L1 := Lib.hid hl1
  have S1 := Lib.hid hs1
  have L2 := Lib.hid hl2
  have S2 := Lib.hid hs2
  have HLA : Hid ((atR t9 old).length ≤ 150 ∧ ∀ f ∈ atR t9 old, f.l.length ≤ 1000) := by
    have hs : (atR t9 old).Sublist old := by
      unfold atR
      split
      · exact List.filter_sublist
      · exact List.nil_sublist _
    exact ⟨Nat.le_trans hs.length_le hl1, fun f hf => by have := sumS_mem (hs.subset hf); omega⟩
  have HLC : Hid ((chgR old now t).length ≤ 10000) := by
    show _ ≤ _
    unfold chgR
    split
    · have := chgL_len _ old now t (Nat.le_refl _); omega
    · exact Nat.zero_le _
  have HLS : Hid (∀ x, (spR x old).length ≤ 1000) := fun x => by
    unfold spR
    split
    · exact spansOf_le fun g hg => by have := sumS_mem hg; omega
    · exact Nat.zero_le _
  have HME : Hid (atE old = if mayFs old = true then 0 else 60) := rfl
  have HMM := Lib.hid (fun X (h : Below w.heap.size w X) => (tell_may A c old X (HA.out.next h) hl1 hs1).2)
  have HMC := Lib.hid (fun X (h : Below w.heap.size w X) => (tell_may A c old X (HA.out.next h) hl1 hs1).1)
  have HAT := Lib.hid (fun X (h : Below w.heap.size w X) => tell_at t9 A c old X (HA.out.next h) hl1 hs1)
  have HCG := Lib.hid (fun X (h : Below w.heap.size w X) => tell_chg t A B c d old now X (HA.out.next h) (HBn.out.next h) hl1 hs1 hl2 hs2)
  have HSP := Lib.hid (fun X (h : Below w.heap.size w X) (e a k m : Int) (s : ByteArray) (hss : s.size ≤ maxLen) => tell_spans A c old X e a k m s (HA.out.next h) hl1 hs1 hss)
  obtain ⟨RA, hRA⟩ : ∃ R, atR t9 old = R := ⟨_, rfl⟩
  obtain ⟨RC, hRC⟩ : ∃ R, chgR old now t = R := ⟨_, rfl⟩
  obtain ⟨EA, hEA⟩ : ∃ R, atE old = R := ⟨_, rfl⟩
  obtain ⟨EC, hEC⟩ : ∃ R, chgE old now t = R := ⟨_, rfl⟩
  obtain ⟨v1, hv1⟩ : ∃ v, mayFs old = v := ⟨_, rfl⟩
  unfold AtEnd at HAT
  unfold CgEnd at HCG
  unfold SgEnd at HSP
  rw [hRA, hEA] at HAT
  rw [hRA] at HLA
  rw [hRC, hEC] at HCG
  rw [hRC] at HLC
  rw [hEA] at HSP HMC HME
  rw [hv1] at HMM HME
  clear hb2 hl1 hs1 hl2 hs2 hRA hRC hEA hEC hv1
  go_wp2_with fail
  refine (HMM.out _ HB2.out).mono ?_
  rintro e9 w3 ⟨rfl, hb⟩
  have HB3 := Lib.hid (HB2.out.trans (hb.mono HB2.out.size))
  clear hb
  go_wp2_with fail
  refine (HMC.out _ HB3.out).mono ?_
  rintro e9 w4 ⟨rfl, hb⟩
  have HB4 := Lib.hid (HB3.out.trans (hb.mono HB3.out.size))
  clear hb
  go_wp2_with fail
  refine (HAT.out _ HB4.out).1.mono ?_
  rintro e9 w5 ⟨⟨A5, c5, rfl, hf⟩, hb⟩
  have HB5 := Lib.hid (HB4.out.trans (hb.mono HB4.out.size))
  have HF5 := Lib.hid hf
  clear hb hf
  go_wp2_with fail
  refine (HAT.out _ HB5.out).2.mono ?_
  rintro e9 w6 ⟨⟨A6, c6, rfl, hf⟩, hb⟩
  have HB6 := Lib.hid (HB5.out.trans (hb.mono HB5.out.size))
  have HF56 := Lib.hid (HF5.out.next hb)
  have HF6 := Lib.hid hf
  clear hb hf
  go_wp2_with fail
  refine (HCG.out _ HB6.out).1.mono ?_
  rintro e9 w7 ⟨⟨A7, c7, rfl, hs⟩, hb⟩
  have HB7 := Lib.hid (HB6.out.trans (hb.mono HB6.out.size))
  have HF57 := Lib.hid (HF56.out.next hb)
  have HF67 := Lib.hid (HF6.out.next hb)
  have HD7 := Lib.hid hs
  clear hb hs
  go_wp2_with fail
  refine (HCG.out _ HB7.out).2.mono ?_
  rintro e9 w8 ⟨⟨A8, c8, rfl, hs⟩, hb⟩
  have HB8 := Lib.hid (HB7.out.trans (hb.mono HB7.out.size))
  have HF58 := Lib.hid (HF57.out.next hb)
  have HF68 := Lib.hid (HF67.out.next hb)
  have HD78 := Lib.hid ((HD7.out.next hb (Nat.le_refl _)).more hb.size)
  have HD8 := Lib.hid hs
  clear hb hs
  have HSM := Lib.hid (sameFa_any A5 A6 c5 c6 RA w8 HF58.out HF68.out (by have := HLA.out.1; omega) (fun f hf => by have := HLA.out.2 f hf; omega))
  have HSD := Lib.hid (fun X (h : Below w8.heap.size w8 X) => sameD_any A7 A8 c7 c8 RC X X.heap.size ((HD78.out.next h (Nat.le_refl _)).more h.size) ((HD8.out.next h (Nat.le_refl _)).more h.size) (by have := HLC.out; omega))
  cases v1
  all_goals
    first
      | obtain rfl : EA = 60 := HME.out
      | obtain rfl : EA = 0 := HME.out
    go_wp2_with fail
    refine HSM.out.mono ?_
    rintro e9 w9 ⟨rfl, hb9⟩
    have HB9 := Lib.hid (HB8.out.trans (hb9.mono HB8.out.size))
    have HSD9 := Lib.hid (HSD.out _ hb9)
    clear hb9
    go_wp2_with fail
    refine HSD9.out.mono ?_
    rintro e9 wA ⟨rfl, nq, rfl⟩
    have HBA := Lib.hid (below_ind HB9.out nq)
    obtain ⟨wA, hwA⟩ : ∃ wA, w9.drewN nq = wA := ⟨_, rfl⟩
    rw [hwA] at HBA ⊢
    clear hwA
    go_upto_region 11 with (fail)
    by_cases hn : 0 ≤ n ∧ n < (now.length : Int)
    · obtain ⟨j, rfl⟩ : ∃ j : Nat, n = (j : Int) := ⟨n.toNat, by omega⟩
      have hjn : j < now.length := by omega
      have hj0 : decide ((0 : Int) ≤ (j : Int)) = true := decide_eq_true (by omega)
      have hji : (j : Int) < (now.length : Int) := by omega
      obtain ⟨b1, o1, sv, rfl, hlt, hc, hsv⟩ := fva_at HBn.out.f hjn
      obtain ⟨f, hf⟩ : ∃ f, now[j] = f := ⟨_, rfl⟩
      rw [hf] at hc hsv
      have hfz : f.s.size ≤ maxLen := HBn.out.z f (by rw [← hf]; exact List.getElem_mem _)
      obtain ⟨As, cs, rfl, _⟩ := id hsv
      have hbz := (Below.refl wA.heap.size wA).alloc (Nat.le_refl _) (.cells #[.int .i64 0, .int .i64 0, .int .i64 0, .int .i64 0, .string ⟨#[]⟩, .slice none 0 0] 42)
      have hcr := (hc.next HBA.out hlt).next hbz (Nat.lt_of_lt_of_le hlt HBA.out.size)
      have HSZ := Lib.hid hfz
      have c0 := hcr.1
      have c1 := hcr.2.1
      have c2 := hcr.2.2.1
      have c3 := hcr.2.2.2.1
      have c4 := hcr.2.2.2.2.1
      have c5' := hcr.2.2.2.2.2
      clear hn hf hc hsv hcr hbz hlt hfz
      go_upto_region 14 with (fail)
      obtain ⟨wB, hwB⟩ : ∃ wB, wA.alloc (.cells #[.int .i64 f.e, .int .i64 f.a, .int .i64 f.k, .int .i64 f.m, .string f.s, .slice As f.l.length cs] 42) = wB := ⟨_, rfl⟩
      have HXB : Hid (FcBx wB wA.heap.size f (.slice As f.l.length cs)) := by rw [← hwB]; exact fcBx_new wA f _
      have HBB : Hid (Below w.heap.size w wB) := by rw [← hwB]; exact HBA.out.alloc HBA.out.size _
      rw [hwB]
      clear hwB
      obtain ⟨bx, hbx⟩ : ∃ bx, wA.heap.size = bx := ⟨_, rfl⟩
      rw [hbx] at HXB ⊢
      clear hbx
      obtain ⟨RS, hRS⟩ : ∃ R, spR (f.e, f.a, f.k, f.m, f.s) old = R := ⟨_, rfl⟩
      have HRL : Hid (RS.length ≤ 1000) := by rw [← hRS]; exact HLS.out _
      have HSQ := Lib.hid (fun Y (h : Below w.heap.size w Y) => HSP.out Y h f.e f.a f.k f.m f.s HSZ.out)
      rw [hRS] at HSQ
      clear hRS
      have x0 : wB.cell? ⟨bx, 0, none⟩ = some (.int .i64 f.e) := HXB.out.k0
      have x1 : wB.cell? ⟨bx, 1, none⟩ = some (.int .i64 f.a) := HXB.out.k1
      have x2 : wB.cell? ⟨bx, 2, none⟩ = some (.int .i64 f.k) := HXB.out.k2
      have x3 : wB.cell? ⟨bx, 3, none⟩ = some (.int .i64 f.m) := HXB.out.k3
      have x4 : wB.cell? ⟨bx, 4, none⟩ = some (.string f.s) := HXB.out.k4
      go_wp2_with fail
      refine (HSQ.out _ HBB.out).1.mono ?_
      rintro e9 wC ⟨⟨AC, cC, rfl, hs⟩, hb⟩
      have HXC := Lib.hid (HXB.out.next hb)
      have HBC := Lib.hid (HBB.out.trans (hb.mono HBB.out.size))
      have HSC := Lib.hid hs
      clear hb hs x0 x1 x2 x3 x4
      have x0 : wC.cell? ⟨bx, 0, none⟩ = some (.int .i64 f.e) := HXC.out.k0
      have x1 : wC.cell? ⟨bx, 1, none⟩ = some (.int .i64 f.a) := HXC.out.k1
      have x2 : wC.cell? ⟨bx, 2, none⟩ = some (.int .i64 f.k) := HXC.out.k2
      have x3 : wC.cell? ⟨bx, 3, none⟩ = some (.int .i64 f.m) := HXC.out.k3
      have x4 : wC.cell? ⟨bx, 4, none⟩ = some (.string f.s) := HXC.out.k4
      go_wp2_with fail
      refine (HSQ.out _ HBC.out).2.mono ?_
      rintro e9 wD ⟨⟨AD, cD, rfl, hs⟩, hb⟩
      have HBD := Lib.hid (HBC.out.trans (hb.mono HBC.out.size))
      have HSCD := Lib.hid ((HSC.out.next hb (Nat.le_refl _)).more hb.size)
      have HSD2 := Lib.hid hs
      clear hb hs x0 x1 x2 x3 x4
      have HSS := Lib.hid (sameS_any AC AD cC cD RS wD wD.heap.size HSCD.out HSD2.out (by have := HRL.out; omega))
      go_wp2_with fail
      refine HSS.out.mono ?_
      rintro e9 wE ⟨rfl, nq2, rfl⟩
      go_wp2
      go_ret
      exact ⟨rfl, below_ind HBD.out nq2⟩
    · by_cases h0 : 0 ≤ n
      · have hn1 : ¬ n < (now.length : Int) := by omega
        have hn0 : decide ((0 : Int) ≤ n) = true := decide_eq_true h0
        clear hn
        go_upto_region 14 with (fail)
        obtain ⟨wB, hwB⟩ : ∃ wB, wA.alloc (.cells #[.int .i64 0, .int .i64 0, .int .i64 0, .int .i64 0, .string ⟨#[]⟩, .slice none 0 0] 42) = wB := ⟨_, rfl⟩
        have HXB : Hid (FcBx wB wA.heap.size (⟨0, 0, 0, 0, ⟨#[]⟩, []⟩ : FactP) (.slice none 0 0)) := by rw [← hwB]; exact fcBx_new wA (⟨0, 0, 0, 0, ⟨#[]⟩, []⟩ : FactP) _
        have HBB : Hid (Below w.heap.size w wB) := by rw [← hwB]; exact HBA.out.alloc HBA.out.size _
        rw [hwB]
        clear hwB
        obtain ⟨bx, hbx⟩ : ∃ bx, wA.heap.size = bx := ⟨_, rfl⟩
        rw [hbx] at HXB ⊢
        clear hbx
        obtain ⟨RS, hRS⟩ : ∃ R, spR (0, 0, 0, 0, ⟨#[]⟩) old = R := ⟨_, rfl⟩
        have HRL : Hid (RS.length ≤ 1000) := by rw [← hRS]; exact HLS.out _
        have HSQ := Lib.hid (fun Y (h : Below w.heap.size w Y) => HSP.out Y h 0 0 0 0 ⟨#[]⟩ (by decide))
        rw [hRS] at HSQ
        clear hRS
        have x0 : wB.cell? ⟨bx, 0, none⟩ = some (.int .i64 0) := HXB.out.k0
        have x1 : wB.cell? ⟨bx, 1, none⟩ = some (.int .i64 0) := HXB.out.k1
        have x2 : wB.cell? ⟨bx, 2, none⟩ = some (.int .i64 0) := HXB.out.k2
        have x3 : wB.cell? ⟨bx, 3, none⟩ = some (.int .i64 0) := HXB.out.k3
        have x4 : wB.cell? ⟨bx, 4, none⟩ = some (.string ⟨#[]⟩) := HXB.out.k4
        go_wp2_with fail
        refine (HSQ.out _ HBB.out).1.mono ?_
        rintro e9 wC ⟨⟨AC, cC, rfl, hs⟩, hb⟩
        have HXC := Lib.hid (HXB.out.next hb)
        have HBC := Lib.hid (HBB.out.trans (hb.mono HBB.out.size))
        have HSC := Lib.hid hs
        clear hb hs x0 x1 x2 x3 x4
        have x0 : wC.cell? ⟨bx, 0, none⟩ = some (.int .i64 0) := HXC.out.k0
        have x1 : wC.cell? ⟨bx, 1, none⟩ = some (.int .i64 0) := HXC.out.k1
        have x2 : wC.cell? ⟨bx, 2, none⟩ = some (.int .i64 0) := HXC.out.k2
        have x3 : wC.cell? ⟨bx, 3, none⟩ = some (.int .i64 0) := HXC.out.k3
        have x4 : wC.cell? ⟨bx, 4, none⟩ = some (.string ⟨#[]⟩) := HXC.out.k4
        go_wp2_with fail
        refine (HSQ.out _ HBC.out).2.mono ?_
        rintro e9 wD ⟨⟨AD, cD, rfl, hs⟩, hb⟩
        have HBD := Lib.hid (HBC.out.trans (hb.mono HBC.out.size))
        have HSCD := Lib.hid ((HSC.out.next hb (Nat.le_refl _)).more hb.size)
        have HSD2 := Lib.hid hs
        clear hb hs x0 x1 x2 x3 x4
        have HSS := Lib.hid (sameS_any AC AD cC cD RS wD wD.heap.size HSCD.out HSD2.out (by have := HRL.out; omega))
        go_wp2_with fail
        refine HSS.out.mono ?_
        rintro e9 wE ⟨rfl, nq2, rfl⟩
        go_wp2
        go_ret
        exact ⟨rfl, below_ind HBD.out nq2⟩
      · have hn0 : decide ((0 : Int) ≤ n) = false := decide_eq_false h0
        clear hn
        go_upto_region 14 with (fail)
        obtain ⟨wB, hwB⟩ : ∃ wB, wA.alloc (.cells #[.int .i64 0, .int .i64 0, .int .i64 0, .int .i64 0, .string ⟨#[]⟩, .slice none 0 0] 42) = wB := ⟨_, rfl⟩
        have HXB : Hid (FcBx wB wA.heap.size (⟨0, 0, 0, 0, ⟨#[]⟩, []⟩ : FactP) (.slice none 0 0)) := by rw [← hwB]; exact fcBx_new wA (⟨0, 0, 0, 0, ⟨#[]⟩, []⟩ : FactP) _
        have HBB : Hid (Below w.heap.size w wB) := by rw [← hwB]; exact HBA.out.alloc HBA.out.size _
        rw [hwB]
        clear hwB
        obtain ⟨bx, hbx⟩ : ∃ bx, wA.heap.size = bx := ⟨_, rfl⟩
        rw [hbx] at HXB ⊢
        clear hbx
        obtain ⟨RS, hRS⟩ : ∃ R, spR (0, 0, 0, 0, ⟨#[]⟩) old = R := ⟨_, rfl⟩
        have HRL : Hid (RS.length ≤ 1000) := by rw [← hRS]; exact HLS.out _
        have HSQ := Lib.hid (fun Y (h : Below w.heap.size w Y) => HSP.out Y h 0 0 0 0 ⟨#[]⟩ (by decide))
        rw [hRS] at HSQ
        clear hRS
        have x0 : wB.cell? ⟨bx, 0, none⟩ = some (.int .i64 0) := HXB.out.k0
        have x1 : wB.cell? ⟨bx, 1, none⟩ = some (.int .i64 0) := HXB.out.k1
        have x2 : wB.cell? ⟨bx, 2, none⟩ = some (.int .i64 0) := HXB.out.k2
        have x3 : wB.cell? ⟨bx, 3, none⟩ = some (.int .i64 0) := HXB.out.k3
        have x4 : wB.cell? ⟨bx, 4, none⟩ = some (.string ⟨#[]⟩) := HXB.out.k4
        go_wp2_with fail
        refine (HSQ.out _ HBB.out).1.mono ?_
        rintro e9 wC ⟨⟨AC, cC, rfl, hs⟩, hb⟩
        have HXC := Lib.hid (HXB.out.next hb)
        have HBC := Lib.hid (HBB.out.trans (hb.mono HBB.out.size))
        have HSC := Lib.hid hs
        clear hb hs x0 x1 x2 x3 x4
        have x0 : wC.cell? ⟨bx, 0, none⟩ = some (.int .i64 0) := HXC.out.k0
        have x1 : wC.cell? ⟨bx, 1, none⟩ = some (.int .i64 0) := HXC.out.k1
        have x2 : wC.cell? ⟨bx, 2, none⟩ = some (.int .i64 0) := HXC.out.k2
        have x3 : wC.cell? ⟨bx, 3, none⟩ = some (.int .i64 0) := HXC.out.k3
        have x4 : wC.cell? ⟨bx, 4, none⟩ = some (.string ⟨#[]⟩) := HXC.out.k4
        go_wp2_with fail
        refine (HSQ.out _ HBC.out).2.mono ?_
        rintro e9 wD ⟨⟨AD, cD, rfl, hs⟩, hb⟩
        have HBD := Lib.hid (HBC.out.trans (hb.mono HBC.out.size))
        have HSCD := Lib.hid ((HSC.out.next hb (Nat.le_refl _)).more hb.size)
        have HSD2 := Lib.hid hs
        clear hb hs x0 x1 x2 x3 x4
        have HSS := Lib.hid (sameS_any AC AD cC cD RS wD wD.heap.size HSCD.out HSD2.out (by have := HRL.out; omega))
        go_wp2_with fail
        refine HSS.out.mono ?_
        rintro e9 wE ⟨rfl, nq2, rfl⟩
        go_wp2
        go_ret
        exact ⟨rfl, below_ind HBD.out nq2⟩

end Go.Proofs.Ytdhnajhfkmmjnaa
