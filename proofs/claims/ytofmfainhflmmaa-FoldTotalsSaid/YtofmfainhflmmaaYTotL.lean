/-
  CONTRACT: the document's Total; the law FoldTotals.
-/
import Derived.Test.YtofmfainhflmmaaYTot
namespace Go.Proofs.Ytofmfainhflmmaa
open Go.RowKit

/-- the block of an answer that is a value -/
structure OneSt (w wr : World) : Prop where
  b : Below w.heap.size w wr
  z : wr.heap[w.heap.size]? = some (.cells #[.int .i64 0, .int .i64 0, .string ⟨#[]⟩] 24 (0, 0))
theorem OneSt.next {w wr w1 : World} (h : OneSt w wr) (hb : Below wr.heap.size wr w1) : OneSt w w1 := by
  have hl := (Array.getElem?_eq_some_iff.1 h.z).1
  exact ⟨h.b.trans (hb.mono h.b.size), (hb.block _ hl).trans h.z⟩
theorem OneSt.d {w wr : World} (h : OneSt w wr) : wr.cell? ⟨w.heap.size, 0, none⟩ = some (.int .i64 0) ∧ wr.cell? ⟨w.heap.size, 1, none⟩ = some (.int .i64 0) ∧ wr.cell? ⟨w.heap.size, 2, none⟩ = some (.string ⟨#[]⟩) ∧ wr.frozen? ⟨w.heap.size, 0, none⟩ = false ∧ wr.frozen? ⟨w.heap.size, 1, none⟩ = false ∧ wr.frozen? ⟨w.heap.size, 2, none⟩ = false := by
  have := h.z
  refine ⟨?_, ?_, ?_, ?_, ?_, ?_⟩ <;> simp [World.cell?, World.frozen?, this]
theorem one_new (w : World) : OneSt w (w.alloc (.cells #[.int .i64 0, .int .i64 0, .string ⟨#[]⟩] 24)) :=
  ⟨(Below.refl _ _).alloc (Nat.le_refl _) _, heap_alloc_new w _⟩
theorem OneSt.end_ {w wr : World} (h : OneSt w wr) (u0 u1 u2 : Value) : Below w.heap.size w (((wr.setCell ⟨w.heap.size, 0, none⟩ u0).setCell ⟨w.heap.size, 1, none⟩ u1).setCell ⟨w.heap.size, 2, none⟩ u2) :=
  ((h.b.setCell (p := ⟨w.heap.size, 0, none⟩) (Nat.le_refl _) _).setCell (p := ⟨w.heap.size, 1, none⟩) (Nat.le_refl _) _).setCell (p := ⟨w.heap.size, 2, none⟩) (Nat.le_refl _) _
set_option maxRecDepth 100000 in
set_option maxHeartbeats 4000000 in
theorem refTotal_any (A : Option Addr) (c : Nat) (l : List Vl) (w : World) (hs : SlV w w.heap.size A l) (hz : nOk l) (hl : l.length ≤ 1000000000) :
    Calls Try.prog 11 #[.slice A l.length c] w fun e w' => e = .returned (.tuple #[vlV (totV l), .int .i64 (totE l)]) ∧ Below w.heap.size w w' := by
  have HS := Lib.hid hs
  have HZ := Lib.hid hz
  clear hs hz
  obtain ⟨w0, hw0⟩ : ∃ w0, w.alloc (.cells #[.int .i64 0, .int .i64 0, .string ⟨#[]⟩] 24) = w0 := ⟨_, rfl⟩
  have HT0 : Hid (OneSt w w0) := by show OneSt _ _; rw [← hw0]; exact one_new w
  go_enter Try.func11, Try.ntmps11
  go_wp2
  go_loopg [4, 5, 6] l.length (fun g x4 x5 x6 wr => ∃ j : Nat, x4 = .int .i64 (upV (l.take j)) ∧ x5 = .int .i64 (dnV (l.take j)) ∧ x6 = .int .i64 j ∧ j + g = l.length ∧ Hid (intsV (l.take j) = true) ∧ Hid (wr = w0))
  case atStart => exact ⟨0, rfl, rfl, rfl, by omega, rfl, rfl⟩
  case round =>
    obtain ⟨j, rfl, rfl, rfl, hj, HI, HT⟩ := hrel
    obtain rfl := HT.out
    obtain ⟨d0, d1, d2, e0, e1, e2⟩ := HT0.out.d
    have hu := upV_bd (nOk_take HZ.out j)
    have hd := dnV_bd (l.take j)
    rw [List.length_take_of_le (by omega)] at hu hd
    cases gk with
    | zero =>
      have hji : ¬ (j : Int) < (l.length : Int) := by omega
      have HJE : Hid (l.take j = l) := List.take_of_length_le (by omega)
      have hh := halves l
      rw [HJE.out] at HI hu hd ⊢
      have HF := Lib.hid (up_fit hh)
      have HUI := Lib.hid (up_is hh)
      have HSS : Hid (totB l = fitB (sumV l)) := by show _ = _; unfold totB; rw [HI.out, Bool.true_and]
      generalize hU : upV l = U at *
      generalize hD : dnV l = D at *
      clear hh hU hD
      have hq : 0 ≤ D / 4294967296 := by omega
      have hr1 : 0 ≤ D % 4294967296 ∧ D % 4294967296 < 4294967296 := by omega
      cases hf : fitB (sumV l) with
      | false =>
        have HE : Hid (totE l = 160 ∧ totV l = (0, 0, ⟨#[]⟩)) := totE_no (by rw [HSS.out, hf])
        have HNF : Hid (¬ (-2147483648 ≤ U + D / 4294967296 ∧ U + D / 4294967296 < 2147483648)) := fun h => by have := HF.out.1 h; rw [hf] at this; cases this
        have HC3 := Lib.hid (cells_three (v0 := .int .i64 0) (v1 := .int .i64 0) (v2 := .string ⟨#[]⟩) d0 d1 d2)
        clear hf HF
        by_cases h1 : U + D / 4294967296 < -2147483648
        · go_wp2
          refine bodyPost_ret (v := .tuple #[vlV (0, 0, ⟨#[]⟩), .int .i64 160]) (by rw [results_ct rfl]; obtain ⟨x0, x1, x2⟩ := HC3.out; clear d0 d1 d2; unfold vlV; go_simp) rfl ?_
          rw [HE.out.1, HE.out.2]
          exact ⟨rfl, HT0.out.end_ _ _ _⟩
        · have h2 : 2147483648 ≤ U + D / 4294967296 := by have := HNF.out; omega
          go_wp2
          refine bodyPost_ret (v := .tuple #[vlV (0, 0, ⟨#[]⟩), .int .i64 160]) (by rw [results_ct rfl]; obtain ⟨x0, x1, x2⟩ := HC3.out; clear d0 d1 d2; unfold vlV; go_simp) rfl ?_
          rw [HE.out.1, HE.out.2]
          exact ⟨rfl, HT0.out.end_ _ _ _⟩
      | true =>
        have HE : Hid (totE l = 0 ∧ totV l = (1, sumV l, ⟨#[]⟩)) := totE_yes (by rw [HSS.out, hf])
        obtain ⟨h1, h2⟩ := HF.out.2 hf
        have h1' : ¬ U + D / 4294967296 < -2147483648 := by omega
        have h2' : ¬ 2147483648 ≤ U + D / 4294967296 := by omega
        obtain ⟨n, hn⟩ : ∃ n, sumV l = n := ⟨_, rfl⟩
        rw [hn] at HE HUI
        have HC3 := Lib.hid (cells_three (v0 := .int .i64 1) (v1 := .int .i64 n) (v2 := .string ⟨#[]⟩) d0 d1 d2)
        have hui := HUI.out
        clear hf HF hn
        go_wp2
        refine bodyPost_ret (v := .tuple #[vlV (1, n, ⟨#[]⟩), .int .i64 0]) (by rw [results_ct rfl]; obtain ⟨x0, x1, x2⟩ := HC3.out; clear d0 d1 d2; unfold vlV; go_simp) rfl ?_
        rw [HE.out.1, HE.out.2]
        exact ⟨rfl, HT0.out.end_ _ _ _⟩
    | succ g =>
      have hji : (j : Int) < (l.length : Int) := by omega
      have hjn : j < l.length := by omega
      obtain ⟨b, o, rfl, hb, hp⟩ := (HS.out.next HT0.out.b (Nat.le_refl _)).at_ hjn
      have hzj := HZ.out _ (List.getElem_mem hjn)
      have HUP : Hid (upV (l.take (j + 1)) = upV (l.take j) + l[j].2.1 / 4294967296) := by show _ = _; rw [List.take_succ_eq_append_getElem hjn, upV_snoc]
      have HDN : Hid (dnV (l.take (j + 1)) = dnV (l.take j) + l[j].2.1 % 4294967296) := by show _ = _; rw [List.take_succ_eq_append_getElem hjn, dnV_snoc]
      by_cases hk1 : l[j].1 = 1
      · have HI2 := Lib.hid (intsV_take hjn HI.out hk1)
        obtain ⟨v, hv⟩ : ∃ v, l[j] = v := ⟨_, rfl⟩
        rw [hv] at hp hzj hk1 HUP HDN
        obtain ⟨p0, p1, p2⟩ : _ ∧ _ ∧ _ := ⟨hp.c0, hp.c1, hp.c2⟩
        obtain ⟨k, n, s⟩ := v
        simp only at p0 p1 p2 hk1 hzj HUP HDN
        subst hk1
        generalize upV (l.take j) = U at *
        generalize dnV (l.take j) = D at *
        obtain ⟨hz1, hz2⟩ := hzj
        clear hv hp
        by_cases hn : 0 ≤ n
        · have hr : ¬ n % 4294967296 < 0 := by omega
          have hq : 0 ≤ n / 4294967296 ∧ n / 4294967296 ≤ 2147483647 := by omega
          have hr2 : n % 4294967296 < 4294967296 := by omega
          go_wp2
          go_roundg g
          case measure => omega
          case rel => exact ⟨j + 1, by rw [HUP.out], by rw [HDN.out], by go_num, by omega, HI2.out, rfl⟩
        · obtain ⟨q, hq⟩ : ∃ q, n.tdiv 4294967296 = q := ⟨_, rfl⟩
          obtain ⟨r, hr⟩ : ∃ r, n.tmod 4294967296 = r := ⟨_, rfl⟩
          have hqr : q * 4294967296 + r = n ∧ -4294967296 < r ∧ r ≤ 0 ∧ -2147483648 ≤ q ∧ q ≤ 0 := by
            have e1 : n.tdiv 4294967296 = -((-n) / 4294967296) := by
              rw [← Int.neg_neg n, Int.neg_tdiv, Int.neg_neg, Int.tdiv_eq_ediv_of_nonneg (by omega)]
            have e2 : n.tmod 4294967296 = -((-n) % 4294967296) := by
              rw [← Int.neg_neg n, Int.neg_tmod, Int.neg_neg, Int.tmod_eq_emod_of_nonneg (by omega)]
            rw [← hq, ← hr, e1, e2]
            omega
          obtain ⟨g1, g2, g3, g4, g5⟩ := hqr
          by_cases h0 : r < 0
          · have HU' : Hid (upV (l.take (j + 1)) = U + (q - 1)) := by show _ = _; rw [HUP.out]; omega
            have HD' : Hid (dnV (l.take (j + 1)) = D + (r + 4294967296)) := by show _ = _; rw [HDN.out]; omega
            clear g1
            go_wp2
            go_roundg g
            case measure => omega
            case rel => exact ⟨j + 1, by rw [HU'.out], by rw [HD'.out], by go_num, by omega, HI2.out, rfl⟩
          · obtain rfl : r = 0 := by omega
            have HU' : Hid (upV (l.take (j + 1)) = U + q) := by show _ = _; rw [HUP.out]; omega
            have HD' : Hid (dnV (l.take (j + 1)) = D) := by show _ = _; rw [HDN.out]; omega
            clear g1
            go_wp2
            go_roundg g
            case measure => omega
            case rel => exact ⟨j + 1, by rw [HU'.out], by rw [HD'.out], by go_num, by omega, HI2.out, rfl⟩
      · have HE : Hid (totE l = 160 ∧ totV l = (0, 0, ⟨#[]⟩)) := totE_no (by unfold totB; rw [intsV_no hjn hk1, Bool.false_and])
        obtain ⟨v, hv⟩ : ∃ v, l[j] = v := ⟨_, rfl⟩
        rw [hv] at hp hk1
        obtain ⟨p0, p1, p2⟩ : _ ∧ _ ∧ _ := ⟨hp.c0, hp.c1, hp.c2⟩
        obtain ⟨k, n, s⟩ := v
        simp only at p0 p1 p2 hk1
        have hkb : (k != 1) = true := by simpa using hk1
        have HC3 := Lib.hid (cells_three (v0 := .int .i64 0) (v1 := .int .i64 0) (v2 := .string ⟨#[]⟩) d0 d1 d2)
        clear hv hp HUP HDN hzj
        go_wp2
        refine bodyPost_ret (v := .tuple #[vlV (0, 0, ⟨#[]⟩), .int .i64 160]) (by rw [results_ct rfl]; obtain ⟨x0, x1, x2⟩ := HC3.out; clear d0 d1 d2; unfold vlV; go_simp) rfl ?_
        rw [HE.out.1, HE.out.2]
        exact ⟨rfl, HT0.out.end_ _ _ _⟩
set_option maxRecDepth 100000 in
set_option maxHeartbeats 2000000 in
/-- the law -/
theorem foldTotalsL_any (A : Option Addr) (c : Nat) (l : List Vl) (w : World) (hs : SlV w w.heap.size A l) (hz : nOk l) :
    Calls Try.prog 3 #[.slice A l.length c] w fun e w' => e = .returned (.bool true) ∧ Below w.heap.size w w' := by
  have HS := Lib.hid hs
  have HZ := Lib.hid hz
  clear hs hz
  by_cases h : l.length ≤ 1000
  · have hi : ¬ (1000 : Int) < (l.length : Int) := by omega
    have HT := Lib.hid (fun W (hb : Below w.heap.size w W) => total_any A c l W ((HS.out.next hb (Nat.le_refl _)).more hb.size) HZ.out (by omega))
    have HR := Lib.hid (fun W (hb : Below w.heap.size w W) => refTotal_any A c l W ((HS.out.next hb (Nat.le_refl _)).more hb.size) HZ.out (by omega))
    obtain ⟨T, hT⟩ : ∃ T, totV l = T := ⟨_, rfl⟩
    obtain ⟨E, hE⟩ : ∃ E, totE l = E := ⟨_, rfl⟩
    rw [hT, hE] at HT HR
    obtain ⟨k, n, s⟩ := T
    unfold vlV at HT HR
    simp only at HT HR
    clear hT hE
    go_enter Try.func3, Try.ntmps3
    go_wp2_with fail
    refine (HT.out w (Below.refl _ _)).mono ?_
    rintro e w1 ⟨rfl, hb1⟩
    obtain ⟨w2, hw2⟩ : ∃ w2, w1.alloc (.cells #[.int .i64 k, .int .i64 n, .string s] 24) = w2 := ⟨_, rfl⟩
    have HB2 : Hid (Below w1.heap.size w1 w2) := by show Below _ _ _; rw [← hw2]; exact (Below.refl _ _).alloc (Nat.le_refl _) _
    have HC : Hid (w2.cell? ⟨w1.heap.size, 0, none⟩ = some (.int .i64 k) ∧ w2.cell? ⟨w1.heap.size, 1, none⟩ = some (.int .i64 n) ∧ w2.cell? ⟨w1.heap.size, 2, none⟩ = some (.string s) ∧ w1.heap.size < w2.heap.size) := by
      show _ ∧ _ ∧ _ ∧ _
      rw [← hw2]
      refine ⟨?_, ?_, ?_, by simp⟩ <;> rw [World.cell?_alloc_new] <;> rfl
    have HB1 := Lib.hid hb1
    clear hb1
    go_wp2_with fail
    refine (HR.out w2 (HB1.out.trans (HB2.out.mono HB1.out.size))).mono ?_
    rintro e w3 ⟨rfl, hb3⟩
    have c0 := (hb3.cell (p := ⟨w1.heap.size, 0, none⟩) HC.out.2.2.2).trans HC.out.1
    have c1 := (hb3.cell (p := ⟨w1.heap.size, 1, none⟩) HC.out.2.2.2).trans HC.out.2.1
    have c2 := (hb3.cell (p := ⟨w1.heap.size, 2, none⟩) HC.out.2.2.2).trans HC.out.2.2.1
    have hlt : w1.heap.size < w3.heap.size := Nat.lt_of_lt_of_le HC.out.2.2.2 hb3.size
    have HB3 := Lib.hid hb3
    clear hw2 hb3
    go_wp2_with fail
    go_ret
    exact ⟨rfl, ((HB1.out.trans (HB2.out.mono HB1.out.size)).trans (HB3.out.mono (Nat.le_trans HB1.out.size HB2.out.size))).alloc (Nat.le_trans HB1.out.size (Nat.le_trans HB2.out.size HB3.out.size)) _⟩
  · have hi : (1000 : Int) < (l.length : Int) := by omega
    go_enter Try.func3, Try.ntmps3
    go_wp2
    go_ret
    exact ⟨rfl, Below.refl _ _⟩
end Go.Proofs.Ytofmfainhflmmaa
