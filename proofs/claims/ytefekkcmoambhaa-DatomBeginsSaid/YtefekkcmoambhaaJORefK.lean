/-
  CONTRACT: Key (the document's).
-/
import Derived.Test.YtefekkcmoambhaaJORefV
import Derived.Test.YtefekkcmoambhaaJOKeyW
namespace Go.Proofs.Ytefekkcmoambhaa
open Go.RowKit Go.Shelf

theorem valB_ne (k n : Int) (s : ByteArray) : valB k n s ≠ [] := by unfold valB; simp

set_option maxRecDepth 100000 in
set_option maxHeartbeats 4000000 in
theorem refKey_any (A : Option Addr) (c : Nat) (l : List PartP) (W : World) (hs : SlP W W.heap.size A l) (hl : costP l ≤ 5000) (hok : ∀ p ∈ l, partOk p) :
    Calls Try.prog 76 #[.slice A l.length c] W (KeyEnd W l) := by
  obtain ⟨i0, hi, hz0, hz1, hz2⟩ := info_parts info8
  have hmx : 50000 ≤ maxLen := by decide
  have HOK := Lib.hid hok
  have hll := costP_len l
  have HLL := Lib.hid hll
  have HC := Lib.hid hl
  have hl500 : l.length ≤ 500 := by omega
  clear hok hll hl
  go_enter Try.func76, Try.ntmps76
  go_wp2
  go_loopg [4, 5, 6, 7] l.length (fun g x y _ _ wr => ∃ (j : Nat) (v : Value), x = v ∧ y = .int .i64 j ∧ j + g = l.length ∧ Hid (OwnB wr W.heap.size v (keyB (l.take j))) ∧ Hid (Below W.heap.size W wr) ∧ W.heap.size ≤ wr.heap.size ∧ Hid ((l.take j).all partMay = true))
  case atStart => exact ⟨0, _, rfl, rfl, by omega, ownB_nil _ _, Below.refl _ _, Nat.le_refl _, rfl⟩
  case round =>
    obtain ⟨j, v, rfl, rfl, hj, HO, HB, hsz, HM⟩ := hrel
    cases gk with
    | zero =>
      have hjz : ¬ ((j : Int) < (l.length : Int)) := by omega
      have ht : l.take j = l := List.take_of_length_le (by omega)
      rw [ht] at HO HM
      clear ht
      go_wp2
      go_ret2
      exact keyEnd_yes HM.out HO.out HB.out
    | succ g =>
      have hjz : (j : Int) < (l.length : Int) := by omega
      have hjn : j < l.length := by omega
      have hpk := HOK.out _ (List.getElem_mem hjn)
      have hcm := costP_mem (List.getElem_mem hjn)
      have hkl : (keyB (l.take j)).length ≤ 10000 := by
        have h1 := keyB_len (l.take j)
        have h2 := costP_mono l j
        have h3 := HC.out
        omega
      have hps : l[j].s.size ≤ 5000 := by have := HC.out; omega
      have HKT := Lib.hid (keyB_take hjn)
      have HAT := Lib.hid (all_take hjn)
      have HAN := Lib.hid (fun h => all_no hjn h)
      obtain ⟨b, o, rfl, hblt, hp⟩ := (hs.next HB.out (Nat.le_refl _)).at_ hjn
      obtain ⟨p, hpe⟩ : ∃ p, l[j] = p := ⟨_, rfl⟩
      rw [hpe] at hp hpk hps HKT HAT HAN
      have h0 := hp.c0
      have h1 := hp.c1
      have h2 := hp.c2
      have h3 := hp.c3
      have h4 := hp.c4
      have HPK := Lib.hid hpk
      have hbl := partB_len p
      clear hp hpk hcm hpe
      cases hv : p.v
      · rw [hv] at h0
        have HPB : Hid (partB p = numB p.n) := by show _ = _; unfold partB; rw [hv]; rfl
        have HPM : Hid (partMay p = true) := by show _ = _; unfold partMay; rw [hv]; rfl
        go_wp2_with fail
        refine (refNumber_any p.n _ HPK.out.1.1 HPK.out.1.2).mono ?_
        rintro e w1 ⟨v1, rfl, ho1, hb1⟩
        have HO1 := Lib.hid (HO.out.next hb1)
        have HB1 := Lib.hid (HB.out.trans (hb1.mono hsz))
        obtain ⟨ad, cx, rfl, _, hc⟩ := own_src ho1 (numB_ne _)
        have HN8 := Lib.hid (numB_len p.n)
        have HCC := Lib.hid hc
        have hs1 := HB1.out.size
        clear ho1 hb1 hc h0 h1 h2 h3 h4 hbl
        go_wp2_with (at_builtin; refine wpList_append_own _ rfl _ _ 43 rfl W.heap.size 5 i0 (.int .u8 0) 1 1 Try.underlying43 hi hz0 hz1 hz2 rfl (by decide) _ _ _ rfl HO1.out ad (numB p.n).length cx (cellsL (numB p.n)) rfl (by rw [cellsL_len, Nat.mul_one]) HCC.out (cellsL_one _) (by rw [HN8.out]; omega) (by rw [HN8.out]; omega) (by omega) ?_; intro v' w5 hown' hgrow _)
        go_roundg g
        case measure => omega
        case rel => exact ⟨j + 1, v', rfl, by go_num, by omega, (by show OwnB _ _ _ _; rw [HKT.out, HPB.out]; rw [← cellsL_app] at hown'; show World.ownsRow _ _ _ _ _ _ _; simpa using hown'), HB1.out.trans (below_own HO1.out hgrow (by omega)), by have := hgrow.size; omega, (by show _ = _; rw [HAT.out, HM.out, HPM.out]; rfl)⟩
      · rw [hv] at h0
        have HPB : Hid (partB p = valB p.k p.m p.s) := by show _ = _; unfold partB; rw [hv]; rfl
        have HPM : Hid (partMay p = mayB p.k p.m p.s) := by show _ = _; unfold partMay; rw [hv]; rfl
        rw [HPB.out] at hbl
        go_wp2_with fail
        refine (refValue_any p.k p.m p.s _ hps HPK.out.2.1 HPK.out.2.2).mono ?_
        rintro e w1 (⟨hm, ⟨v1, rfl, ho1⟩, hb1⟩ | ⟨hm, rfl, hb1⟩)
        · have HMB := Lib.hid hm
          have HO1 := Lib.hid (HO.out.next hb1)
          have HB1 := Lib.hid (HB.out.trans (hb1.mono hsz))
          obtain ⟨ad, cx, rfl, _, hc⟩ := own_src ho1 (valB_ne _ _ _)
          have HCC := Lib.hid hc
          have hs1 := HB1.out.size
          clear ho1 hb1 hc h0 h1 h2 h3 h4 hm
          go_wp2_with (at_builtin; refine wpList_append_own _ rfl _ _ 43 rfl W.heap.size 5 i0 (.int .u8 0) 1 1 Try.underlying43 hi hz0 hz1 hz2 rfl (by decide) _ _ _ rfl HO1.out ad (valB p.k p.m p.s).length cx (cellsL (valB p.k p.m p.s)) rfl (by rw [cellsL_len, Nat.mul_one]) HCC.out (cellsL_one _) (by omega) (by omega) (by omega) ?_; intro v' w5 hown' hgrow _)
          go_roundg g
          case measure => omega
          case rel => exact ⟨j + 1, v', rfl, by go_num, by omega, (by show OwnB _ _ _ _; rw [HKT.out, HPB.out]; rw [← cellsL_app] at hown'; show World.ownsRow _ _ _ _ _ _ _; simpa using hown'), HB1.out.trans (below_own HO1.out hgrow (by omega)), by have := hgrow.size; omega, (by show _ = _; rw [HAT.out, HM.out, HPM.out, HMB.out]; rfl)⟩
        · have HMB := Lib.hid hm
          have HB1 := Lib.hid (HB.out.trans (hb1.mono hsz))
          clear hb1 hm h0 h1 h2 h3 h4 hbl
          go_wp2
          go_ret2
          exact keyEnd_no (HAN.out (by rw [HPM.out, HMB.out])) HB1.out

end Go.Proofs.Ytefekkcmoambhaa
