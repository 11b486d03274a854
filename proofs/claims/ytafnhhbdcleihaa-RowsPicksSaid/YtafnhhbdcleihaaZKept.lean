/-
  CONTRACT: rows.kept, handed the law's closure by Select.
-/
import Derived.Test.YtafnhhbdcleihaaZSel2
namespace Go.Proofs.Ytafnhhbdcleihaa
open Go.RowKit

theorem callV2 {P : Program} {ops : Array Oper} {Q : Exit → Act → World → Prop} {md : Region.Mode} {S : World → Prop} {fuel : Nat} {listed : Array Bool} {a : Act} {w : World} (i j : Nat) {oi oj : Oper} (hi : ops[i]? = some oi) (hj : ops[j]? = some oj) (hr : Region.ready md ops listed = [i, j]) (hwi : Region.wanted oi (yielded ops a.tmps) = true) (hwj : Region.wanted oj (yielded ops a.tmps) = true)
    (h1 : ∀ K' : Act → World → Prop, Shut (∀ a w, S w → (S w → wpAnyH P md ops Q S fuel (listed.setIfInBounds i true) a w) → K' a w) → Oper.wp P oi a w K' Q)
    (h2 : ∀ K' : Act → World → Prop, Shut (∀ a w, S w → (S w → wpAnyH P md ops Q S fuel (listed.setIfInBounds j true) a w) → K' a w) → Oper.wp P oj a w K' Q) : wpAnyH P md ops Q S (fuel + 1) listed a w :=
  wpAnyH_ready hr (by simp) (AllReadyH.cons hi (fun K' hK => by rw [if_pos hwi]; exact h1 K' hK) (AllReadyH.cons hj (fun K' hK => by rw [if_pos hwj]; exact h2 K' hK) AllReadyH.nil))
theorem owns_keep {W W' : World} {B : Nat} {t : TypeId} {k n : Nat} {v : Value} {xs : List Value} (h : W.ownsRow B t k v n xs) (hk : ∀ g, (∃ n c, v = .slice (some ⟨g, 0, none⟩) n c) → W'.heap[g]? = W.heap[g]?) : W'.ownsRow B t k v n xs := by
  refine ⟨h.1, ?_⟩
  rcases h.2 with h0 | ⟨g, cap, cur, e1, e2, e3, e4⟩
  · exact .inl h0
  · exact .inr ⟨g, cap, cur, e1, e2, (hk g ⟨_, _, e1⟩).trans e3, e4⟩
/-- the rows that are wanted, told from the n-th on -/
def selF : Nat → List (List Vl) → List (List Vl)
  | _, [] => []
  | n, x :: l => if wantB n then x :: selF (n + 1) l else selF (n + 1) l
theorem selF_snoc : ∀ (n : Nat) (l : List (List Vl)) (x : List Vl), selF n (l ++ [x]) = selF n l ++ (if wantB (n + l.length) then [x] else [])
  | n, [], x => by
    show selF n [x] = [] ++ _
    rw [List.nil_append]
    show (if wantB n then x :: selF (n + 1) [] else selF (n + 1) []) = if wantB (n + 0) then [x] else []
    rfl
  | n, y :: l, x => by
    have ih := selF_snoc (n + 1) l x
    have e : n + 1 + l.length = n + (y :: l).length := by rw [List.length_cons]; omega
    rw [e] at ih
    show (if wantB n then y :: selF (n + 1) (l ++ [x]) else selF (n + 1) (l ++ [x])) = (if wantB n then y :: selF (n + 1) l else selF (n + 1) l) ++ _
    rw [ih]
    split <;> rfl
theorem selF_len : ∀ (n : Nat) (l : List (List Vl)), (selF n l).length ≤ l.length
  | _, [] => Nat.le_refl _
  | n, x :: l => by
    have ih := selF_len (n + 1) l
    show (if wantB n then x :: selF (n + 1) l else selF (n + 1) l).length ≤ _
    split
    · rw [List.length_cons, List.length_cons]; omega
    · rw [List.length_cons]; omega
/-- what kept has made -/
structure KeS (bN bO bk : Nat) (wK : World) (v0 vr : Value) (acc : List Rw) (j : Nat) (W : World) : Prop where
  k : KpS bN bO bk wK W
  st : SelSt bN bO j W
  c0 : W.cell? ⟨bk, 0, none⟩ = some v0
  c1 : W.cell? ⟨bk, 1, none⟩ = some vr
  f0 : W.frozen? ⟨bk, 0, none⟩ = false
  f1 : W.frozen? ⟨bk, 1, none⟩ = false
  r : OwnR W wK.heap.size vr acc
theorem KeS.told {bN bO bk : Nat} {wK : World} {v0 vr : Value} {acc : List Rw} {j j' : Nat} {W W' : World} (h : KeS bN bO bk wK v0 vr acc j W) (hk : KpS bN bO W.heap.size W W') (hs : SelSt bN bO j' W') (h1 : bN < bk) (h2 : bO < bk) (h3 : bk < wK.heap.size) : KeS bN bO bk wK v0 vr acc j' W' := by
  have h4 : bk < W.heap.size := Nat.lt_of_lt_of_le h3 h.k.size
  exact ⟨h.k.trans (hk.mono (Nat.le_of_lt h4)), hs, (hk.cell (p := ⟨bk, 0, none⟩) h4 h4 (by show bk ≠ bN; omega) (by show bk ≠ bO; omega)).trans h.c0, (hk.cell (p := ⟨bk, 1, none⟩) h4 h4 (by show bk ≠ bN; omega) (by show bk ≠ bO; omega)).trans h.c1, (hk.frozen (p := ⟨bk, 0, none⟩) h4 h4 (by show bk ≠ bN; omega) (by show bk ≠ bO; omega)).trans h.f0, (hk.frozen (p := ⟨bk, 1, none⟩) h4 h4 (by show bk ≠ bN; omega) (by show bk ≠ bO; omega)).trans h.f1, hk.ownR h.r (by omega) (by omega) (Nat.le_refl _)⟩
theorem KeS.next {bN bO bk : Nat} {wK : World} {v0 vr : Value} {acc : List Rw} {j : Nat} {W W' : World} (h : KeS bN bO bk wK v0 vr acc j W) (hb : Below W.heap.size W W') (h1 : bN < bk) (h2 : bO < bk) (h3 : bk < wK.heap.size) : KeS bN bO bk wK v0 vr acc j W' :=
  h.told (KpS.of_below hb (Nat.le_refl _)) (h.st.next hb (by have := h.k.size; omega) (by have := h.k.size; omega)) h1 h2 h3
/-- what kept answers -/
def KeptEnd (bN bO : Nat) (w : World) (cols : List ByteArray) (T : List (List Vl)) (m : Nat) (e : Ending) (w' : World) : Prop :=
  ∃ vc vr R', e = .returned (.agg #[vc, vr]) ∧ KpS bN bO w.heap.size w w' ∧ SelSt bN bO m w' ∧ OwnC w' w.heap.size vc cols ∧ OwnR w' w.heap.size vr R' ∧ txR R' = T
set_option maxRecDepth 100000 in
set_option maxHeartbeats 8000000 in
theorem kept_any (bs bx bN bO : Nat) (A1 : Option Addr) (c1 : Nat) (R : List Rw) (A0 : Option Addr) (c0 : Nat) (cols : List ByteArray) (A7 : Option Addr) (c7 : Nat) (R7 : List Rw) (w : World) (hst : SelSt bN bO 0 w) (h1 : bx < bN) (h2 : bN < bO) (h3 : bO < bs) (hs : bs < w.heap.size)
    (hbs : w.cell? ⟨bs, 0, none⟩ = some (cloV bO bN bx)) (hbx : w.cell? ⟨bx, 1, none⟩ = some (.slice A1 R.length c1)) (hR : SlR w bN A1 R) (hc : SlC w bN A0 cols) (hn : A0 = none → cols.length = 0 ∧ c0 = 0) (hR7 : SlR w bN A7 R7) (htx : txR R7 = txR R)
    (hl : R.length ≤ 1000000000) (hlc : cols.length ≤ 1000000000) (hll : ∀ r ∈ R7, r.l.length ≤ 1000000000) :
    Calls Try.prog 59 #[.agg #[.slice A0 cols.length c0, .slice A7 R7.length c7], .func (.func 60) #[] #[.pointer (some ⟨bs, 0, none⟩)]] w (KeptEnd bN bO w cols (selF 0 (txR R7)) R7.length) := by
  obtain ⟨i0, hi, hz0, hz1, hz2⟩ := info_parts infoR
  have hmx : 9000000000000 ≤ maxLen := by decide
  have hl7 : R7.length ≤ 1000000000 := by rw [← txR_len, htx, txR_len]; exact hl
  have HST := Lib.hid hst
  have HBS := Lib.hid hbs
  have HBX := Lib.hid hbx
  have HR := Lib.hid hR
  have HR7 := Lib.hid hR7
  have HTX := Lib.hid htx
  have HLL := Lib.hid hll
  have HLT := Lib.hid (show bx < bN ∧ bN < bO ∧ bO < bs ∧ bs < w.heap.size from ⟨h1, h2, h3, hs⟩)
  obtain ⟨w1, hw1⟩ : ∃ w1, (w.alloc (.cells #[.slice A0 cols.length c0, .slice A7 R7.length c7] 26)).alloc (.cells #[.slice none 0 0, .slice none 0 0] 26) = w1 := ⟨_, rfl⟩
  have htw : Two w w1 (.slice A0 cols.length c0) (.slice A7 R7.length c7) := by rw [← hw1]; exact two_new _ _ _ _
  have HT1 := Lib.hid htw
  have hs1 : (w.alloc (.cells #[.slice A0 cols.length c0, .slice A7 R7.length c7] 26)).heap.size = w.heap.size + 1 := by simp
  have HCL := Lib.hid (cloneS_any A0 c0 cols w1 w1.heap.size (Sl1.more (Sl1.next hc htw.b (by omega)) (by have := htw.b.size; omega)) hn (Nat.le_refl _) (by omega))
  obtain ⟨ya0, ya1⟩ : _ ∧ _ := ⟨htw.a0, htw.a1⟩
  clear hst hbs hbx hR hR7 htx hll hc hn htw
  go_enter Try.func59, Try.ntmps59
  go_wp2_with fail
  refine HCL.out.mono ?_
  rintro e w2 ⟨v2, rfl, ho2, hb2⟩
  obtain ⟨A5, c5, rfl, _, _, _, _, hg5⟩ := ho2.form
  have HO2 := Lib.hid ho2
  have HG5 := Lib.hid hg5
  have HT2 := Lib.hid (HT1.out.next hb2)
  obtain ⟨w3, hw3⟩ : ∃ w3, w2.alloc (.cells #[.slice none 0 0, .slice none 0 0] 26) = w3 := ⟨_, rfl⟩
  have hb3 : Below w2.heap.size w2 w3 := by rw [← hw3]; exact (Below.refl _ _).alloc (Nat.le_refl _) _
  have k0 : w3.cell? ⟨w2.heap.size, 0, none⟩ = some (.slice none 0 0) := by rw [← hw3, World.cell?_alloc_new]; rfl
  have k1 : w3.cell? ⟨w2.heap.size, 1, none⟩ = some (.slice none 0 0) := by rw [← hw3, World.cell?_alloc_new]; rfl
  have f0 : w3.frozen? ⟨w2.heap.size, 0, none⟩ = false := by rw [← hw3]; simp
  have f1 : w3.frozen? ⟨w2.heap.size, 1, none⟩ = false := by rw [← hw3]; simp
  have HZ3 : Hid (w2.heap.size < w3.heap.size) := by show _ < _; rw [← hw3]; simp
  have HK := Lib.hid (show _ ∧ _ ∧ _ ∧ _ from ⟨k0, k1, f0, f1⟩)
  have HB3 := Lib.hid hb3
  clear ya0 ya1 hb2 ho2 hg5 hb3 HCL hw1
  go_upto_region 2 with fail
  obtain ⟨wK, hwK⟩ : ∃ wK, (w3.setCell ⟨w2.heap.size, 0, none⟩ (.slice A5 cols.length c5)).setCell ⟨w2.heap.size, 1, none⟩ (.slice none 0 0) = wK := ⟨_, rfl⟩
  have HB2K : Hid (Below w2.heap.size w2 wK) := by show Below _ _ _; rw [← hwK]; exact (HB3.out.setCell (p := ⟨w2.heap.size, 0, none⟩) (Nat.le_refl _) _).setCell (p := ⟨w2.heap.size, 1, none⟩) (Nat.le_refl _) _
  have HZK : Hid (w2.heap.size < wK.heap.size) := by show _ < _; rw [← hwK]; simpa using HZ3.out
  have HTK := Lib.hid (HT2.out.next HB2K.out)
  have HOK : Hid (OwnC wK w1.heap.size (.slice A5 cols.length c5) cols) := HO2.out.next HB2K.out
  have HN2 : Hid (w.heap.size + 1 < w2.heap.size) := HT2.out.lt
  have HKK : Hid (KeS bN bO w2.heap.size wK (.slice A5 cols.length c5) (.slice none 0 0) [] 0 wK) := by
    have hc2 := cells_two (v0 := .slice A5 cols.length c5) (v1 := .slice none 0 0) HK.out.1 HK.out.2.1
    rw [hwK] at hc2
    refine ⟨KpS.refl _ _ _ _, HST.out.next HTK.out.b (by omega) (by omega), hc2.1, hc2.2, ?_, ?_, ownR_nil _ _⟩
    · rw [← hwK]; simpa using HK.out.2.2.1
    · rw [← hwK]; simpa using HK.out.2.2.2
  rw [hwK]
  have ya1 := HTK.out.a1
  clear hwK hw3 k0 k1 f0 f1
  go_wp2
  clear ya1
  have h5 : bN < w2.heap.size := by have := HN2.out; omega
  have h6 : bO < w2.heap.size := by have := HN2.out; omega
  have h7 : w2.heap.size < wK.heap.size := HZK.out
  have h8 : w.heap.size + 1 < w2.heap.size := HN2.out
  go_loopg [15] R7.length (fun g x15 wr => ∃ (j : Nat) (vr : Value) (acc : List Rw), x15 = .int .i64 j ∧ j + g = R7.length ∧ Hid (KeS bN bO w2.heap.size wK (.slice A5 cols.length c5) vr acc j wr) ∧ Hid (txR acc = selF 0 ((txR R7).take j)))
  case atStart => exact ⟨0, _, [], rfl, by omega, HKK.out, rfl⟩
  case round =>
    obtain ⟨j, vr, acc, rfl, hj, HS, HA⟩ := hrel
    have HBN : Hid (Below bN w wr) := (HTK.out.b.mono (by omega)).trans (HS.out.k.below (Nat.le_refl _) (by omega) (by omega) (by omega))
    have hacc : acc.length ≤ 1000000000 := by
      have e : acc.length = (selF 0 ((txR R7).take j)).length := by rw [← HA.out, txR_len]
      have h9 := selF_len 0 ((txR R7).take j)
      have h10 : ((txR R7).take j).length ≤ j := List.length_take_le ..
      omega
    obtain ⟨A6, c6, rfl, _⟩ := HS.out.r.form
    cases gk with
    | zero =>
      have hji : ¬ (j : Int) < (R7.length : Int) := by omega
      have hjR : j = R7.length := by omega
      have x0 := HS.out.c0
      have x1 := HS.out.c1
      have HE : Hid (txR acc = selF 0 (txR R7)) := by
        have := HA.out
        rw [List.take_of_length_le (by rw [txR_len]; omega)] at this
        exact this
      have hbr : w.heap.size + 1 < wK.heap.size := by have := HN2.out; omega
      have r0 := (HS.out.k.cell (p := ⟨w.heap.size + 1, 0, none⟩) hbr HN2.out (by show w.heap.size + 1 ≠ _; omega) (by show w.heap.size + 1 ≠ _; omega)).trans HTK.out.c0
      have r1 := (HS.out.k.cell (p := ⟨w.heap.size + 1, 1, none⟩) hbr HN2.out (by show w.heap.size + 1 ≠ _; omega) (by show w.heap.size + 1 ≠ _; omega)).trans HTK.out.c1
      have g0 := (HS.out.k.frozen (p := ⟨w.heap.size + 1, 0, none⟩) hbr HN2.out (by show w.heap.size + 1 ≠ _; omega) (by show w.heap.size + 1 ≠ _; omega)).trans HTK.out.f0
      have g1 := (HS.out.k.frozen (p := ⟨w.heap.size + 1, 1, none⟩) hbr HN2.out (by show w.heap.size + 1 ≠ _; omega) (by show w.heap.size + 1 ≠ _; omega)).trans HTK.out.f1
      have HC2 := Lib.hid (cells_two (v0 := .slice A5 cols.length c5) (v1 := .slice A6 acc.length c6) r0 r1)
      have HOC : Hid (OwnC wr w1.heap.size (.slice A5 cols.length c5) cols) := owns_keep HOK.out (fun g ⟨n, c, e⟩ => by
        injection e with e
        obtain ⟨g', e', hg1, hg2⟩ := HG5.out _ e
        injection e' with e'
        have := HT1.out.lt
        exact HS.out.k.b g (by omega) (by omega) (by omega) (by omega))
      have hlo : w.heap.size + 1 < w1.heap.size := HT1.out.lt
      have hsN : bN ≠ w.heap.size + 1 := by omega
      have hsO : bO ≠ w.heap.size + 1 := by omega
      clear hbr
      go_wp2
      refine bodyPost_ret (v := .agg #[.slice A5 cols.length c5, .slice A6 acc.length c6]) (by rw [results_c1 rfl]; obtain ⟨z0, z1⟩ := HC2.out; clear r0 r1 x0 x1; go_simp) rfl ?_
      refine ⟨_, _, acc, rfl, ?_, ?_, ?_, ?_, HE.out⟩
      · exact (((KpS.of_below HTK.out.b (Nat.le_refl _)).trans (HS.out.k.mono (by omega))).set ⟨w.heap.size + 1, 0, none⟩ _ (.inr (.inr (Nat.le_succ _)))).set ⟨w.heap.size + 1, 1, none⟩ _ (.inr (.inr (Nat.le_succ _)))
      · rw [← hjR]; exact (HS.out.st.set ⟨w.heap.size + 1, 0, none⟩ _ hsN hsO).set ⟨w.heap.size + 1, 1, none⟩ _ hsN hsO
      · exact owns_low (owns_set (owns_set HOC.out hlo _ _) hlo _ _) (by omega)
      · exact ((HS.out.r.set (by omega) _ _).set (by omega) _ _).low (by omega)
    | succ g =>
      have hji : (j : Int) < (R7.length : Int) := by omega
      have hjn : j < R7.length := by omega
      obtain ⟨b, o, x, rfl, hb, hx, hp, hok⟩ := (HR7.out.next HBN.out (Nat.le_refl _)).at_ hjn
      have hxm := List.mem_of_getElem? hx
      have hTX := txR_at hx
      have HTK2 : Hid ((txR R7).take (j + 1) = (txR R7).take j ++ [x.l]) := take_snocR hx
      obtain ⟨r, hr, hre⟩ := txR_get (by rw [← HTX.out]; exact hTX : (txR R)[j]? = some x.l)
      have HRL : Hid (((txR R7).take j).length = j) := List.length_take_of_le (by rw [txR_len]; omega)
      have hwr : wK.heap.size ≤ wr.heap.size := HS.out.k.size
      have hokw : RwOk wr wr.heap.size x := hok.more (by omega)
      have HOKN := Lib.hid hok
      have hBS : wr.cell? ⟨bs, 0, none⟩ = some (cloV bO bN bx) := (HS.out.k.cell (p := ⟨bs, 0, none⟩) (by show bs < _; omega) (by show bs < _; omega) (by show bs ≠ _; omega) (by show bs ≠ _; omega)).trans ((HTK.out.b.cell (p := ⟨bs, 0, none⟩) (by show bs < _; omega)).trans HBS.out)
      have HSE := Lib.hid (sel2_any bs bx bN bO x r A1 c1 R j wr HS.out.st h1 h2 h3 (by omega) hBS ((HBN.out.cell (p := ⟨bx, 1, none⟩) (by show bx < _; omega)).trans HBX.out) (HR.out.next HBN.out (Nat.le_refl _)) hokw hr hre.symm hl (HLL.out x hxm))
      have HOKW := Lib.hid hokw
      have HXL := Lib.hid (HLL.out x hxm)
      obtain ⟨A2, c2, l2⟩ := x
      unfold cellR at HSE
      simp only at HSE HTK2 HXL
      obtain ⟨q, hq⟩ : ∃ q, wantB j = q := ⟨_, rfl⟩
      have HQ := Lib.hid hq
      rw [hq] at HSE
      clear hx hok hxm hTX hr hre hokw hBS hq
      go_wp2_with fail
      refine HSE.out.mono ?_
      rintro e w4 ⟨rfl, hst4, hk4⟩
      have HS4 := Lib.hid (HS.out.told hk4 hst4 h5 h6 h7)
      have HK4 := Lib.hid hk4
      clear hst4 hk4 HSE
      cases q with
      | false =>
        have HE : Hid (txR acc = selF 0 ((txR R7).take (j + 1))) := by
          show _ = _
          rw [HTK2.out, selF_snoc, HRL.out, Nat.zero_add, HQ.out, HA.out]
          simp
        go_wp2
        go_roundg g
        case measure => omega
        case rel => exact ⟨j + 1, _, acc, by go_num, by omega, HS4.out, HE.out⟩
      | true =>
        have HE : Hid (selF 0 ((txR R7).take (j + 1)) = txR acc ++ [l2]) := by
          show _ = _
          rw [HTK2.out, selF_snoc, HRL.out, Nat.zero_add, HQ.out, HA.out]
          rfl
        have hw4 : wr.heap.size ≤ w4.heap.size := HK4.out.size
        have hb4N : Below bN wr w4 := HK4.out.below (Nat.le_refl _) (by omega) (by omega) (by omega)
        have HCV := Lib.hid (fun W (hb : Below w4.heap.size w4 W) => cloneV_any A2 c2 l2 W W.heap.size (((HOKN.out.s.next hb4N (Nat.le_refl _)).next hb (by omega)).more (by have := hb.size; omega)) HOKN.out.n (Nat.le_refl _) (by have := HXL.out; omega))
        clear hb4N
        go_wp2_with fail
        obtain ⟨wd, hwd⟩ : ∃ wd, w4.drew = wd := ⟨_, rfl⟩
        have HWD := Lib.hid hwd
        have HBD : Hid (Below w4.heap.size w4 wd) := by show Below _ _ _; rw [← hwd]; exact (Below.refl _ _).drew
        have HSD := Lib.hid (HS4.out.next HBD.out h5 h6 h7)
        have hwd' : wK.heap.size ≤ w4.heap.size := HS4.out.k.size
        have hwd : wK.heap.size ≤ wd.heap.size := HSD.out.k.size
        refine wp_region_held_drew (S := fun _ => True) (by kernel_rfl) trivial (fun hHeld => ?_)
        rw [HWD.out]
        refine takeV 0 (some 22) ((.pointer (some ⟨w2.heap.size, 1, none⟩))) rfl rfl (by kernel_rfl) (by kernel_rfl) (by kernel_rfl) (fun _ _ _ h => h) (by rfl) (by (intro _w _hSw; (try dsimp only at _hSw); go_simp)) (by assumption) ?_
        simp only [Act.put, List.setIfInBounds_toArray, List.set_cons_zero, List.set_cons_succ]
        refine takeV 2 (some 24) ((.slice A2 l2.length c2)) rfl rfl (by kernel_rfl) (by kernel_rfl) (by kernel_rfl) (fun _ _ _ h => h) (by rfl) (by (intro _w _hSw; (try dsimp only at _hSw); go_simp)) (by assumption) ?_
        simp only [Act.put, List.setIfInBounds_toArray, List.set_cons_zero, List.set_cons_succ]
        refine callV2 1 3 rfl rfl (by kernel_rfl) (by rfl) (by rfl) (fun K hK => ?_) (fun K hK => ?_)
        · skip
          have hx1 := HSD.out.c1
          go_simp
          refine hK.out _ _ trivial (fun hHeld1 => ?_)
          clear hK K hx1
          try simp only [Act.put, List.setIfInBounds_toArray, List.set_cons_zero, List.set_cons_succ]
          refine callV 3 rfl (by kernel_rfl) (by rfl) (fun K hK => ?_)
          go_simp
          refine (HCV.out wd HBD.out).mono ?_
          rintro e w5 ⟨v5, rfl, ho5, hb5⟩
          obtain ⟨A8, c8, rfl, _⟩ := ho5.form
          have HB5 : Hid (Below w4.heap.size w4 w5) := HBD.out.trans (hb5.mono HBD.out.size)
          have HO5 : Hid (OwnV w5 wK.heap.size (.slice A8 l2.length c8) l2) := ho5.low hwd
          refine hK.out _ _ trivial (fun hHeld3 => ?_)
          clear hK K hb5 ho5
          try simp only [Act.put, List.setIfInBounds_toArray, List.set_cons_zero, List.set_cons_succ]
          have HS5 := Lib.hid (HS4.out.next HB5.out h5 h6 h7)
          have hba : Below w5.heap.size w5 (w5.alloc (.cells #[.slice A8 l2.length c8] 30)) := (Below.refl _ _).alloc (Nat.le_refl _) _
          have HS6 := Lib.hid (HS5.out.next hba h5 h6 h7)
          have HO6 : Hid (OwnV (w5.alloc (.cells #[.slice A8 l2.length c8] 30)) wK.heap.size (cellR ⟨A8, c8, l2⟩) l2) := HO5.out.next hba
          have hw5 : wK.heap.size ≤ w5.heap.size := HS5.out.k.size
          clear hba
          refine callV 4 rfl (by kernel_rfl) (by rfl) (fun K hK => ?_)
          go_simp
          refine hK.out _ _ trivial (fun hHeld4 => ?_)
          clear hK K
          try simp only [Act.put, List.setIfInBounds_toArray, List.set_cons_zero, List.set_cons_succ]
          refine callV 5 rfl (by kernel_rfl) (by rfl) (fun K hK => ?_)
          refine wp_append_own _ _ _ 23 rfl wK.heap.size 30 i0 (.slice none 0 0) 1 24 Try.underlying23 hi hz0 hz1 hz2 rfl (by decide) (.slice A6 acc.length c6) acc.length _ rfl HS6.out.r.o ⟨w5.heap.size, 0, none⟩ 1 1 ([(⟨A8, c8, l2⟩ : Rw)].map cellR) rfl rfl (fun j u h => lit1 cellR 30 w5 ⟨A8, c8, l2⟩ _ rfl j u h) (fun u hu => by obtain ⟨x, _, rfl⟩ := List.mem_map.1 hu; rfl) (by omega) (by omega) (by rw [World.size_alloc]; omega) ?_
          intro v7 w7 hown hgrow _
          have hr7 : OwnR w7 wK.heap.size v7 (acc ++ [⟨A8, c8, l2⟩]) := HS6.out.r.snoc HO6.out HOKN.out.z hown hgrow
          have hb7 : Below wK.heap.size (w5.alloc (.cells #[.slice A8 l2.length c8] 30)) w7 := below_owns HS6.out.r.o hgrow (by rw [World.size_alloc]; omega)
          obtain ⟨A9, c9, rfl, _⟩ := hr7.form
          have HR7x := Lib.hid hr7
          have x0 := (hb7.cell (p := ⟨w2.heap.size, 0, none⟩) h7).trans HS6.out.c0
          have x1 := (hb7.cell (p := ⟨w2.heap.size, 1, none⟩) h7).trans HS6.out.c1
          have y0 := (hb7.frozen (p := ⟨w2.heap.size, 0, none⟩) h7).trans HS6.out.f0
          have y1 := (hb7.frozen (p := ⟨w2.heap.size, 1, none⟩) h7).trans HS6.out.f1
          have HXY := Lib.hid (show _ ∧ _ ∧ _ ∧ _ from ⟨x0, x1, y0, y1⟩)
          have HK7 : Hid (KpS bN bO w2.heap.size wK w7 ∧ SelSt bN bO (j + 1) w7) := ⟨HS6.out.k.trans (KpS.of_below hb7 (by omega)), HS6.out.st.next hb7 (by omega) (by omega)⟩
          refine hK.out _ _ trivial (fun hHeld5 => ?_)
          clear hK K hown hgrow hr7 hb7
          try simp only [Act.put, List.setIfInBounds_toArray]
          refine takeV 6 (some 28) ((.pointer (some ⟨w2.heap.size, 1, none⟩))) rfl rfl (by kernel_rfl) (by kernel_rfl) (by kernel_rfl) (fun _ _ _ h => h) (by rfl) (by (intro _w _hSw; (try dsimp only at _hSw); go_simp)) (by assumption) ?_
          simp only [Act.put]
          refine callV 7 rfl (by kernel_rfl) (by rfl) (fun K hK => ?_)
          go_simp
          refine hK.out _ _ trivial (fun hHeld7 => ?_)
          clear hK K x0 x1 y0 y1
          try simp only [Act.put, List.setIfInBounds_toArray, List.set_cons_zero, List.set_cons_succ]
          refine wpAnyH_done (by kernel_rfl) ?_ _
          go_wp2
          go_roundg g
          case measure => omega
          case rel =>
            have HR8 : Hid (OwnR w7 wK.heap.size (.slice A9 (acc.length + 1) c9) (acc ++ [⟨A8, c8, l2⟩])) := by
              have h := HR7x.out
              rw [List.length_append] at h
              exact h
            refine ⟨j + 1, .slice A9 (acc.length + 1) c9, acc ++ [⟨A8, c8, l2⟩], by go_num, by omega, ⟨?_, ?_, ?_, ?_, ?_, ?_, ?_⟩, ?_⟩
            · exact HK7.out.1.set ⟨w2.heap.size, 1, none⟩ _ (.inr (.inr (Nat.le_refl _)))
            · exact HK7.out.2.set ⟨w2.heap.size, 1, none⟩ _ (by show bN ≠ w2.heap.size; omega) (by show bO ≠ w2.heap.size; omega)
            · rw [World.cell?_setCell_other _ _ _ _ (by intro h; injection h with _ h; omega)]; exact HXY.out.1
            · rw [World.cell?_setCell_same _ _ _ HXY.out.2.1]
            · simpa using HXY.out.2.2.1
            · simpa using HXY.out.2.2.2
            · exact HR8.out.set h7 _ _
            · show _ = _
              rw [HE.out]
              unfold txR
              rw [List.map_append]; rfl
        · skip
          go_simp
          refine (HCV.out wd HBD.out).mono ?_
          rintro e w5 ⟨v5, rfl, ho5, hb5⟩
          obtain ⟨A8, c8, rfl, _⟩ := ho5.form
          have HB5 : Hid (Below w4.heap.size w4 w5) := HBD.out.trans (hb5.mono HBD.out.size)
          have HO5 : Hid (OwnV w5 wK.heap.size (.slice A8 l2.length c8) l2) := ho5.low hwd
          refine hK.out _ _ trivial (fun hHeld3 => ?_)
          clear hK K hb5 ho5
          try simp only [Act.put, List.setIfInBounds_toArray, List.set_cons_zero, List.set_cons_succ]
          refine callV2 1 4 rfl rfl (by kernel_rfl) (by rfl) (by rfl) (fun K hK => ?_) (fun K hK => ?_)
          · skip
            have hx1 := (HS4.out.next HB5.out h5 h6 h7).c1
            go_simp
            refine hK.out _ _ trivial (fun hHeld1 => ?_)
            clear hK K hx1
            try simp only [Act.put, List.setIfInBounds_toArray, List.set_cons_zero, List.set_cons_succ]
            have HS5 := Lib.hid (HS4.out.next HB5.out h5 h6 h7)
            have hba : Below w5.heap.size w5 (w5.alloc (.cells #[.slice A8 l2.length c8] 30)) := (Below.refl _ _).alloc (Nat.le_refl _) _
            have HS6 := Lib.hid (HS5.out.next hba h5 h6 h7)
            have HO6 : Hid (OwnV (w5.alloc (.cells #[.slice A8 l2.length c8] 30)) wK.heap.size (cellR ⟨A8, c8, l2⟩) l2) := HO5.out.next hba
            have hw5 : wK.heap.size ≤ w5.heap.size := HS5.out.k.size
            clear hba
            refine callV 4 rfl (by kernel_rfl) (by rfl) (fun K hK => ?_)
            go_simp
            refine hK.out _ _ trivial (fun hHeld4 => ?_)
            clear hK K
            try simp only [Act.put, List.setIfInBounds_toArray, List.set_cons_zero, List.set_cons_succ]
            refine callV 5 rfl (by kernel_rfl) (by rfl) (fun K hK => ?_)
            refine wp_append_own _ _ _ 23 rfl wK.heap.size 30 i0 (.slice none 0 0) 1 24 Try.underlying23 hi hz0 hz1 hz2 rfl (by decide) (.slice A6 acc.length c6) acc.length _ rfl HS6.out.r.o ⟨w5.heap.size, 0, none⟩ 1 1 ([(⟨A8, c8, l2⟩ : Rw)].map cellR) rfl rfl (fun j u h => lit1 cellR 30 w5 ⟨A8, c8, l2⟩ _ rfl j u h) (fun u hu => by obtain ⟨x, _, rfl⟩ := List.mem_map.1 hu; rfl) (by omega) (by omega) (by rw [World.size_alloc]; omega) ?_
            intro v7 w7 hown hgrow _
            have hr7 : OwnR w7 wK.heap.size v7 (acc ++ [⟨A8, c8, l2⟩]) := HS6.out.r.snoc HO6.out HOKN.out.z hown hgrow
            have hb7 : Below wK.heap.size (w5.alloc (.cells #[.slice A8 l2.length c8] 30)) w7 := below_owns HS6.out.r.o hgrow (by rw [World.size_alloc]; omega)
            obtain ⟨A9, c9, rfl, _⟩ := hr7.form
            have HR7x := Lib.hid hr7
            have x0 := (hb7.cell (p := ⟨w2.heap.size, 0, none⟩) h7).trans HS6.out.c0
            have x1 := (hb7.cell (p := ⟨w2.heap.size, 1, none⟩) h7).trans HS6.out.c1
            have y0 := (hb7.frozen (p := ⟨w2.heap.size, 0, none⟩) h7).trans HS6.out.f0
            have y1 := (hb7.frozen (p := ⟨w2.heap.size, 1, none⟩) h7).trans HS6.out.f1
            have HXY := Lib.hid (show _ ∧ _ ∧ _ ∧ _ from ⟨x0, x1, y0, y1⟩)
            have HK7 : Hid (KpS bN bO w2.heap.size wK w7 ∧ SelSt bN bO (j + 1) w7) := ⟨HS6.out.k.trans (KpS.of_below hb7 (by omega)), HS6.out.st.next hb7 (by omega) (by omega)⟩
            refine hK.out _ _ trivial (fun hHeld5 => ?_)
            clear hK K hown hgrow hr7 hb7
            try simp only [Act.put, List.setIfInBounds_toArray]
            refine takeV 6 (some 28) ((.pointer (some ⟨w2.heap.size, 1, none⟩))) rfl rfl (by kernel_rfl) (by kernel_rfl) (by kernel_rfl) (fun _ _ _ h => h) (by rfl) (by (intro _w _hSw; (try dsimp only at _hSw); go_simp)) (by assumption) ?_
            simp only [Act.put]
            refine callV 7 rfl (by kernel_rfl) (by rfl) (fun K hK => ?_)
            go_simp
            refine hK.out _ _ trivial (fun hHeld7 => ?_)
            clear hK K x0 x1 y0 y1
            try simp only [Act.put, List.setIfInBounds_toArray, List.set_cons_zero, List.set_cons_succ]
            refine wpAnyH_done (by kernel_rfl) ?_ _
            go_wp2
            go_roundg g
            case measure => omega
            case rel =>
              have HR8 : Hid (OwnR w7 wK.heap.size (.slice A9 (acc.length + 1) c9) (acc ++ [⟨A8, c8, l2⟩])) := by
                have h := HR7x.out
                rw [List.length_append] at h
                exact h
              refine ⟨j + 1, .slice A9 (acc.length + 1) c9, acc ++ [⟨A8, c8, l2⟩], by go_num, by omega, ⟨?_, ?_, ?_, ?_, ?_, ?_, ?_⟩, ?_⟩
              · exact HK7.out.1.set ⟨w2.heap.size, 1, none⟩ _ (.inr (.inr (Nat.le_refl _)))
              · exact HK7.out.2.set ⟨w2.heap.size, 1, none⟩ _ (by show bN ≠ w2.heap.size; omega) (by show bO ≠ w2.heap.size; omega)
              · rw [World.cell?_setCell_other _ _ _ _ (by intro h; injection h with _ h; omega)]; exact HXY.out.1
              · rw [World.cell?_setCell_same _ _ _ HXY.out.2.1]
              · simpa using HXY.out.2.2.1
              · simpa using HXY.out.2.2.2
              · exact HR8.out.set h7 _ _
              · show _ = _
                rw [HE.out]
                unfold txR
                rw [List.map_append]; rfl
          · skip
            have HS5 := Lib.hid (HS4.out.next HB5.out h5 h6 h7)
            have hba : Below w5.heap.size w5 (w5.alloc (.cells #[.slice A8 l2.length c8] 30)) := (Below.refl _ _).alloc (Nat.le_refl _) _
            have HS6 := Lib.hid (HS5.out.next hba h5 h6 h7)
            have HO6 : Hid (OwnV (w5.alloc (.cells #[.slice A8 l2.length c8] 30)) wK.heap.size (cellR ⟨A8, c8, l2⟩) l2) := HO5.out.next hba
            have hw5 : wK.heap.size ≤ w5.heap.size := HS5.out.k.size
            clear hba
            go_simp
            refine hK.out _ _ trivial (fun hHeld4 => ?_)
            clear hK K
            try simp only [Act.put, List.setIfInBounds_toArray, List.set_cons_zero, List.set_cons_succ]
            have hx1 := HS6.out.c1
            refine callV 1 rfl (by kernel_rfl) (by rfl) (fun K hK => ?_)
            go_simp
            refine hK.out _ _ trivial (fun hHeld9 => ?_)
            clear hK K hx1
            try simp only [Act.put, List.setIfInBounds_toArray, List.set_cons_zero, List.set_cons_succ]
            refine callV 5 rfl (by kernel_rfl) (by rfl) (fun K hK => ?_)
            refine wp_append_own _ _ _ 23 rfl wK.heap.size 30 i0 (.slice none 0 0) 1 24 Try.underlying23 hi hz0 hz1 hz2 rfl (by decide) (.slice A6 acc.length c6) acc.length _ rfl HS6.out.r.o ⟨w5.heap.size, 0, none⟩ 1 1 ([(⟨A8, c8, l2⟩ : Rw)].map cellR) rfl rfl (fun j u h => lit1 cellR 30 w5 ⟨A8, c8, l2⟩ _ rfl j u h) (fun u hu => by obtain ⟨x, _, rfl⟩ := List.mem_map.1 hu; rfl) (by omega) (by omega) (by rw [World.size_alloc]; omega) ?_
            intro v7 w7 hown hgrow _
            have hr7 : OwnR w7 wK.heap.size v7 (acc ++ [⟨A8, c8, l2⟩]) := HS6.out.r.snoc HO6.out HOKN.out.z hown hgrow
            have hb7 : Below wK.heap.size (w5.alloc (.cells #[.slice A8 l2.length c8] 30)) w7 := below_owns HS6.out.r.o hgrow (by rw [World.size_alloc]; omega)
            obtain ⟨A9, c9, rfl, _⟩ := hr7.form
            have HR7x := Lib.hid hr7
            have x0 := (hb7.cell (p := ⟨w2.heap.size, 0, none⟩) h7).trans HS6.out.c0
            have x1 := (hb7.cell (p := ⟨w2.heap.size, 1, none⟩) h7).trans HS6.out.c1
            have y0 := (hb7.frozen (p := ⟨w2.heap.size, 0, none⟩) h7).trans HS6.out.f0
            have y1 := (hb7.frozen (p := ⟨w2.heap.size, 1, none⟩) h7).trans HS6.out.f1
            have HXY := Lib.hid (show _ ∧ _ ∧ _ ∧ _ from ⟨x0, x1, y0, y1⟩)
            have HK7 : Hid (KpS bN bO w2.heap.size wK w7 ∧ SelSt bN bO (j + 1) w7) := ⟨HS6.out.k.trans (KpS.of_below hb7 (by omega)), HS6.out.st.next hb7 (by omega) (by omega)⟩
            refine hK.out _ _ trivial (fun hHeld5 => ?_)
            clear hK K hown hgrow hr7 hb7
            try simp only [Act.put, List.setIfInBounds_toArray]
            refine takeV 6 (some 28) ((.pointer (some ⟨w2.heap.size, 1, none⟩))) rfl rfl (by kernel_rfl) (by kernel_rfl) (by kernel_rfl) (fun _ _ _ h => h) (by rfl) (by (intro _w _hSw; (try dsimp only at _hSw); go_simp)) (by assumption) ?_
            simp only [Act.put]
            refine callV 7 rfl (by kernel_rfl) (by rfl) (fun K hK => ?_)
            go_simp
            refine hK.out _ _ trivial (fun hHeld7 => ?_)
            clear hK K x0 x1 y0 y1
            try simp only [Act.put, List.setIfInBounds_toArray, List.set_cons_zero, List.set_cons_succ]
            refine wpAnyH_done (by kernel_rfl) ?_ _
            go_wp2
            go_roundg g
            case measure => omega
            case rel =>
              have HR8 : Hid (OwnR w7 wK.heap.size (.slice A9 (acc.length + 1) c9) (acc ++ [⟨A8, c8, l2⟩])) := by
                have h := HR7x.out
                rw [List.length_append] at h
                exact h
              refine ⟨j + 1, .slice A9 (acc.length + 1) c9, acc ++ [⟨A8, c8, l2⟩], by go_num, by omega, ⟨?_, ?_, ?_, ?_, ?_, ?_, ?_⟩, ?_⟩
              · exact HK7.out.1.set ⟨w2.heap.size, 1, none⟩ _ (.inr (.inr (Nat.le_refl _)))
              · exact HK7.out.2.set ⟨w2.heap.size, 1, none⟩ _ (by show bN ≠ w2.heap.size; omega) (by show bO ≠ w2.heap.size; omega)
              · rw [World.cell?_setCell_other _ _ _ _ (by intro h; injection h with _ h; omega)]; exact HXY.out.1
              · rw [World.cell?_setCell_same _ _ _ HXY.out.2.1]
              · simpa using HXY.out.2.2.1
              · simpa using HXY.out.2.2.2
              · exact HR8.out.set h7 _ _
              · show _ = _
                rw [HE.out]
                unfold txR
                rw [List.map_append]; rfl
end Go.Proofs.Ytafnhhbdcleihaa
