/-
  CONTRACTS: together and Changes.
-/
import Derived.Test.YtdhnajhfkmmjnaaJFLeast
namespace Go.Proofs.Ytdhnajhfkmmjnaa
open Go.RowKit Go.Shelf

theorem minusL_len (a b : List Sp) : (minusL a b).length ≤ a.length + b.length := by
  by_cases hx : ∃ r, SetL r ∧ ∀ t, Inn r t ↔ Inn a t ∧ ¬ Inn b t
  · obtain ⟨r, r1, r2⟩ := hx
    have e1 := minusL_is r1 r2
    have := minusL_few (a := a) (b := b) (by rw [e1]; exact r1) (by rw [e1]; exact r2)
    omega
  · unfold minusL
    rw [dif_neg hx]
    exact Nat.zero_le _
theorem chgT_len (t : Int) (q : Tri × List Sp × List Sp) : (chgT t q).length ≤ 2 * (q.2.1.length + q.2.2.length) := by
  unfold chgT
  rw [List.length_append, List.length_map, List.length_map]
  have h1 := minusL_len q.2.2 q.2.1
  have h2 := minusL_len q.2.1 q.2.2
  omega
/-- facts whose spans are sets of instants -/
def GoodF (l : List FactP) : Prop := ∀ f ∈ l, SetL f.l ∧ ∀ q ∈ f.l, SpOk q
theorem goodF_take {l r : List FactP} (h : GoodF l) (hs : r.Sublist l) (p : Tri) : SetL (takeS r p) ∧ ∀ q ∈ takeS r p, SpOk q := by
  rcases takeS_cases r p with e | ⟨f, hf, e, _⟩
  · rw [e]; exact ⟨setL_nil, fun q hq => by cases hq⟩
  · rw [e]; exact h f (hs.subset hf)
theorem takeS_len (l : List FactP) (p : Tri) : (takeS l p).length ≤ sumS l := by have := sumS_take l p; omega
def sayV (Bl Bt : Nat) : Value := .func (.func 43) #[] #[.pointer (some ⟨Bl, 0, none⟩), .pointer (some ⟨Bt, 0, none⟩)]
/-- the boxes of Changes, and what has been said -/
structure ChgW (w : World) (t : Int) (Bl Bt Bs : Nat) (ds : List Dat) (W : World) : Prop where
  row : ∃ v, Boxed W Bl 31 v ∧ OwnD W w.heap.size v ds
  t : Boxed W Bt 2 (.int .i64 t)
  say : Boxed W Bs 83 (sayV Bl Bt)
  below : Below w.heap.size w W
theorem ChgW.next {w W W' : World} {t : Int} {Bl Bt Bs : Nat} {ds : List Dat} (h : ChgW w t Bl Bt Bs ds W) (hb : Below W.heap.size W W') : ChgW w t Bl Bt Bs ds W' := by
  obtain ⟨v, h1, h2⟩ := h.row
  exact ⟨⟨v, (hb.block _ h1.lt).trans h1, h2.next hb⟩, (hb.block _ h.t.lt).trans h.t, (hb.block _ h.say.lt).trans h.say, h.below.trans (hb.mono h.below.size)⟩
theorem ChgW.keepX {w W W' : World} {t : Int} {Bl Bt Bs Bx : Nat} {ds : List Dat} {u : Value} (h : ChgW w t Bl Bt Bs ds W) (hx : Boxed W Bx 22 u) (hk : KeepX Bx W W') (hb : Below w.heap.size W W') (h1 : Bl ≠ Bx) (h2 : Bt ≠ Bx) (h3 : Bs ≠ Bx) : ChgW w t Bl Bt Bs ds W' := by
  obtain ⟨v, g1, g2⟩ := h.row
  exact ⟨⟨v, hk.boxed g1 h1, hk.ownD g2 hx (by decide) hb.os hb.tape hb.output⟩, hk.boxed h.t h2, hk.boxed h.say h3, h.below.trans hb⟩
/-- together, on its way -/
def TogI (w : World) (t : Int) (Bl Bt Bs b3 b4 : Nat) (a b : List FactP) (all : List Dat) (n : Nat) (W : World) : Prop :=
  ∃ (ra rb : List FactP) (A B : Option Addr) (c d : Nat) (ds : List Dat), n = ra.length + rb.length ∧ FVa w (.slice A ra.length c) ra ∧ FVa w (.slice B rb.length d) rb ∧ Boxed W b3 22 (.slice A ra.length c) ∧ Boxed W b4 22 (.slice B rb.length d) ∧
    ChgW w t Bl Bt Bs ds W ∧ all = ds ++ chgL ra rb t ∧ ra.Sublist a ∧ rb.Sublist b ∧ ds.length + 2 * (sumS ra + sumS rb) ≤ 2 * (sumS a + sumS b)
theorem sumS_sub {r l : List FactP} (h : r.Sublist l) : sumS r ≤ sumS l := by
  induction h with
  | slnil => exact Nat.le_refl _
  | cons x _ ih => unfold sumS at ih ⊢; simp; omega
  | cons_cons x _ ih => unfold sumS at ih ⊢; simp; omega
set_option maxRecDepth 100000 in
set_option maxHeartbeats 4000000 in
theorem together_any (t : Int) (Bl Bt Bs : Nat) (A B : Option Addr) (c d : Nat) (a b : List FactP) (ds : List Dat) (w W : World) (ha : FVa w (.slice A a.length c) a) (hb : FVa w (.slice B b.length d) b) (hw : ChgW w t Bl Bt Bs ds W) (hd : ds = [])
    (hBl : w.heap.size ≤ Bl) (hne : Bt ≠ Bl) (hns : Bs ≠ Bl) (h1 : Bl < W.heap.size) (h2 : Bt < W.heap.size) (h3 : Bs < W.heap.size) (hga : GoodF a) (hgb : GoodF b) (hs : sumS a + sumS b ≤ 5000) :
    Calls Try.prog 45 #[.slice A a.length c, .slice B b.length d, .func (.func 46) #[] #[.pointer (some ⟨Bs, 0, none⟩)]] W fun en W' => en = .returned (.tuple #[]) ∧ ChgW w t Bl Bt Bs (chgL a b t) W' := by
  obtain ⟨w0, hw0⟩ : ∃ w0, (W.alloc (.cells #[.slice A a.length c] 22)).alloc (.cells #[.slice B b.length d] 22) = w0 := ⟨_, rfl⟩
  have hb0 : Below W.heap.size W w0 := by rw [← hw0]; exact ((Below.refl _ W).alloc (Nat.le_refl _) _).alloc (by simp) _
  have HX3 : Hid (Boxed w0 W.heap.size 22 (.slice A a.length c)) := by rw [← hw0]; exact (Boxed.new W 22 (.slice A a.length c)).alloc _
  have HX4 : Hid (Boxed w0 (W.heap.size + 1) 22 (.slice B b.length d)) := by
    rw [← hw0]
    have := Boxed.new (W.alloc (.cells #[.slice A a.length c] 22)) 22 (.slice B b.length d)
    rwa [World.size_alloc] at this
  have HW0 := Lib.hid (hw.next hb0)
  have HAB := Lib.hid (And.intro ha hb)
  have HGA := Lib.hid hga
  have HGB := Lib.hid hgb
  have HWB : Hid (w.heap.size ≤ W.heap.size) := hw.below.size
  subst hd
  clear ha hb hw hb0 hga hgb
  obtain ⟨b3, hb3⟩ : ∃ b, b = W.heap.size := ⟨_, rfl⟩
  obtain ⟨b4, hb4⟩ : ∃ b, b = W.heap.size + 1 := ⟨_, rfl⟩
  rw [← hb3] at HX3
  rw [← hb4] at HX4
  have n1 : Bl ≠ b3 := by omega
  have n2 : Bt ≠ b3 := by omega
  have n3 : Bs ≠ b3 := by omega
  have n4 : Bl ≠ b4 := by omega
  have n5 : Bt ≠ b4 := by omega
  have n6 : Bs ≠ b4 := by omega
  have n7 : b3 ≠ b4 := by omega
  have n8 : w.heap.size ≤ b3 := by have := HWB.out; omega
  have n9 : w.heap.size ≤ b4 := by have := HWB.out; omega
  go_enter Try.func45, Try.ntmps45
  go_upto_region 1 with (fail)
  try rw [hw0]
  clear hw0
  rw [← hb4, ← hb3]
  clear hb3 hb4
  go_wp2
  go_loopg [7] (a.length + b.length) (fun g _ wr => Hid (TogI w t Bl Bt Bs b3 b4 a b (chgL a b t) g wr))
  case atStart => exact ⟨a, b, A, B, c, d, [], rfl, HAB.out.1, HAB.out.2, HX3.out, HX4.out, HW0.out, rfl, List.Sublist.refl _, List.Sublist.refl _, by simp⟩
  case round =>
    obtain ⟨ra, rb, A', B', c', d', ds, rfl, hfa, hfb, hx3, hx4, hcw, hall, hsa, hsb, hlen⟩ := hrel.out
    have z3 := hx3.cell
    have z4 := hx4.cell
    have HAL := Lib.hid hall
    have HCW := Lib.hid hcw
    have HFA := Lib.hid hfa
    have HFB := Lib.hid hfb
    have HXX := Lib.hid (And.intro hx3 hx4)
    have HSA := Lib.hid hsa
    have HSB := Lib.hid hsb
    have q1 := sumS_sub hsa
    have q2 := sumS_sub hsb
    clear hrel hall hcw hfa hfb hx3 hx4 hsa hsb
    by_cases hemp : ra = [] ∧ rb = []
    · obtain ⟨rfl, rfl⟩ := hemp
      simp only [List.length_nil] at z3 z4
      have HE : Hid (chgL a b t = ds) := by show _ = _; rw [HAL.out, chgL_nil, List.append_nil]
      go_wp2
      go_end0
      exact ⟨rfl, by rw [HE.out]; exact HCW.out⟩
    · obtain ⟨⟨e, a1, k, m, s⟩, hp⟩ : ∃ x, leastT ra rb = x := ⟨_, rfl⟩
      have hlst := least_any A' B' c' d' ra rb wr (HFA.out.next HCW.out.below) (HFB.out.next HCW.out.below) hemp
      rw [hp] at hlst
      have HLS := Lib.hid hlst
      have hstep := chgL_step hemp t
      have hless := tog_less hemp
      rw [hp] at hstep hless
      have HST := Lib.hid hstep
      have HLE := Lib.hid hless
      have HPOS : Hid (0 < ra.length ∨ 0 < rb.length) := by
        show _ ∨ _
        by_cases h : ra = []
        · exact .inr (List.length_pos_iff.2 fun h' => hemp ⟨h, h'⟩)
        · exact .inl (List.length_pos_iff.2 h)
      clear hlst hstep hless hemp hp
      have key : ∀ (Q : Prop), (0 < ra.length → Q) → (¬ 0 < ra.length → 0 < rb.length → Q) → Q := fun Q h1 h2 => by
        by_cases h : 0 < ra.length
        · exact h1 h
        · exact h2 h (HPOS.out.resolve_left h)
      refine key _ (fun hra => ?_) (fun hra hrb => ?_)
      · have da : decide ((0 : Int) < (ra.length : Int)) = true := decide_eq_true (by omega)
        go_wp2_with fail
        refine HLS.out.mono ?_
        rintro en w1 ⟨rfl, hb1⟩
        have hcw1 := HCW.out.next hb1
        obtain ⟨hx3, hx4⟩ := HXX.out
        have hx31 : Boxed w1 b3 22 (.slice A' ra.length c') := (hb1.block _ hx3.lt).trans hx3
        have hx41 : Boxed w1 b4 22 (.slice B' rb.length d') := (hb1.block _ hx4.lt).trans hx4
        obtain ⟨w2, hw2⟩ : ∃ w2, w1.alloc (.cells #[.int .i64 e, .int .i64 a1, .int .i64 k, .int .i64 m, .string s] 81) = w2 := ⟨_, rfl⟩
        have hb2 : Below w1.heap.size w1 w2 := by rw [← hw2]; exact (Below.refl _ w1).alloc (Nat.le_refl _) _
        have HTR : Hid (TrAt w2 w1.heap.size e a1 k m s) := by rw [← hw2]; exact trAt_new w1 e a1 k m s
        have HC2 := Lib.hid ((hcw1.next hb2).next (below_ind (Below.refl _ w2) 1))
        have hx32 : Boxed w2 b3 22 (.slice A' ra.length c') := (hb2.block _ hx31.lt).trans hx31
        have hx42 : Boxed w2 b4 22 (.slice B' rb.length d') := (hb2.block _ hx41.lt).trans hx41
        have m3 : w1.heap.size ≠ b3 := by have := hx31.lt; omega
        have m4 : w1.heap.size ≠ b4 := by have := hx41.lt; omega
        have HNL : Hid (w1.heap.size ≠ Bl) := by obtain ⟨v, g1, _⟩ := hcw1.row; have := g1.lt; show _ ≠ _; omega
        have HX := Lib.hid (And.intro hx32 hx42)
        clear hcw1 hx3 hx4 hx31 hx41 hx32 hx42 hb1 hb2 z3 z4
        go_upto_region 4 with (fail)
        try rw [hw2]
        clear hw2
        refine wp_region_held_drew (S := fun X => TrAt X w1.heap.size e a1 k m s) (by kernel_rfl) HTR.out (fun hHeld => ?_)
        refine takeV 0 (some 19) ((.func (.func 46) #[] #[.pointer (some ⟨Bs, 0, none⟩)])) rfl rfl (by kernel_rfl) (by kernel_rfl) (by kernel_rfl) (fun _ _ _ h => h) (by rfl) (by (intro _w _hSw; (try dsimp only at _hSw); go_simp)) (by assumption) ?_
        simp only [Act.put, List.setIfInBounds_toArray, List.set_cons_zero, List.set_cons_succ]
        refine takeV 1 (some 20) ((.agg #[.int .i64 e, .int .i64 a1, .int .i64 k, .int .i64 m, .string s])) rfl rfl (by kernel_rfl) (by kernel_rfl) (by kernel_rfl) (fun _ _ _ h => h) (by rfl) (by (intro _w hSw; have q0 := hSw.k0; have q1 := hSw.k1; have q2 := hSw.k2; have q3 := hSw.k3; have q4 := hSw.k4; clear hSw; go_simp)) (by assumption) ?_
        simp only [Act.put, List.setIfInBounds_toArray, List.set_cons_zero, List.set_cons_succ]
        refine takeV 2 (some 21) ((.func (.func 69) #[] #[])) rfl rfl (by kernel_rfl) (by kernel_rfl) (by kernel_rfl) (fun _ _ _ h => h) (by rfl) (by (intro _w _hSw; (try dsimp only at _hSw); go_simp)) (by assumption) ?_
        simp only [Act.put, List.setIfInBounds_toArray, List.set_cons_zero, List.set_cons_succ]
        refine takeV 3 (some 22) ((.agg #[.int .i64 e, .int .i64 a1, .int .i64 k, .int .i64 m, .string s])) rfl rfl (by kernel_rfl) (by kernel_rfl) (by kernel_rfl) (fun _ _ _ h => h) (by rfl) (by (intro _w hSw; have q0 := hSw.k0; have q1 := hSw.k1; have q2 := hSw.k2; have q3 := hSw.k3; have q4 := hSw.k4; clear hSw; go_simp)) (by assumption) ?_
        simp only [Act.put, List.setIfInBounds_toArray, List.set_cons_zero, List.set_cons_succ]
        refine takeV 5 (some 24) ((.func (.func 69) #[] #[])) rfl rfl (by kernel_rfl) (by kernel_rfl) (by kernel_rfl) (fun _ _ _ h => h) (by rfl) (by (intro _w _hSw; (try dsimp only at _hSw); go_simp)) (by assumption) ?_
        simp only [Act.put, List.setIfInBounds_toArray, List.set_cons_zero, List.set_cons_succ]
        refine takeV 6 (some 25) ((.agg #[.int .i64 e, .int .i64 a1, .int .i64 k, .int .i64 m, .string s])) rfl rfl (by kernel_rfl) (by kernel_rfl) (by kernel_rfl) (fun _ _ _ h => h) (by rfl) (by (intro _w hSw; have q0 := hSw.k0; have q1 := hSw.k1; have q2 := hSw.k2; have q3 := hSw.k3; have q4 := hSw.k4; clear hSw; go_simp)) (by assumption) ?_
        simp only [Act.put, List.setIfInBounds_toArray, List.set_cons_zero, List.set_cons_succ]
        refine callV 4 rfl (by kernel_rfl) (by rfl) (fun K hK => ?_)
        go_simp
        go_at_call 69
        refine (take_any e a1 k m s A' c' ra w _ b3 HFA.out HC2.out.below n8 HX.out.1).mono ?_
        rintro en x1 ⟨u1, A5, c5, rfl, hsv1, hfa1, hbx1, hkx1, hbl1⟩
        refine hK.out _ _ (hkx1.trAt hHeld m3) (fun hHeld => ?_)
        clear hK K
        obtain ⟨U1, j1, rfl, _⟩ := id hsv1
        have HC3 := Lib.hid (HC2.out.keepX HX.out.1 hkx1 hbl1 n1 n2 n3)
        have hx43 : Boxed x1 b4 22 (.slice B' rb.length d') := hkx1.boxed HX.out.2 n7.symm
        have HX3' := Lib.hid (And.intro hbx1 hx43)
        have HS1 := Lib.hid hsv1
        have HFA1 := Lib.hid hfa1
        clear hsv1 hfa1 hbx1 hkx1 hbl1 hx43 HX HC2
        try simp only [Act.put, List.setIfInBounds_toArray, List.set_cons_zero, List.set_cons_succ]
        refine callV 7 rfl (by kernel_rfl) (by rfl) (fun K hK => ?_)
        go_simp
        go_at_call 69
        refine (take_any e a1 k m s B' d' rb w _ b4 HFB.out HC3.out.below n9 HX3'.out.2).mono ?_
        rintro en x2 ⟨u2, A6, c6, rfl, hsv2, hfb2, hbx2, hkx2, hbl2⟩
        refine hK.out _ _ (hkx2.trAt hHeld m4) (fun hHeld => ?_)
        clear hK K
        obtain ⟨U2, j2, rfl, _⟩ := id hsv2
        have HC4 := Lib.hid (HC3.out.keepX HX3'.out.2 hkx2 hbl2 n4 n5 n6)
        have hx34 : Boxed x2 b3 22 (.slice A5 (takeR ra (e, a1, k, m, s)).length c5) := hkx2.boxed HX3'.out.1 n7
        have HX4' := Lib.hid (And.intro hx34 hbx2)
        have HS2 := Lib.hid hsv2
        have HFB2 := Lib.hid hfb2
        clear hsv2 hfb2 hbx2 hkx2 hbl2 hx34 HX3' HC3
        try simp only [Act.put, List.setIfInBounds_toArray, List.set_cons_zero, List.set_cons_succ]
        refine callV 8 rfl (by kernel_rfl) (by rfl) (fun K hK => ?_)
        go_simp
        go_at_call 46
        obtain ⟨v, hv1, hv2⟩ := HC4.out.row
        have l1 := takeS_len ra (e, a1, k, m, s)
        have l2 := takeS_len rb (e, a1, k, m, s)
        have l3 := sumS_take ra (e, a1, k, m, s)
        have l4 := sumS_take rb (e, a1, k, m, s)
        have l5 := chgT_len t ((e, a1, k, m, s), takeS ra (e, a1, k, m, s), takeS rb (e, a1, k, m, s))
        refine (sayBoth_any e a1 k m s t (takeS ra (e, a1, k, m, s)) (takeS rb (e, a1, k, m, s)) _ _ v w.heap.size Bl Bt Bs ds w _ hBl rfl HC4.out.below hv1 hv2 HC4.out.t hne HC4.out.say hns HS1.out HS2.out (goodF_take HGA.out HSA.out _).1 (goodF_take HGB.out HSB.out _).1 (goodF_take HGA.out HSA.out _).2 (goodF_take HGB.out HSB.out _).2 (by omega) (by omega)).mono ?_
        rintro en x3 ⟨rfl, ⟨v3, hr1, hr2⟩, hk3, hb3'⟩
        refine hK.out _ _ (hk3.trAt hHeld HNL.out) (fun hHeld => ?_)
        clear hK K hHeld
        have HC5 : Hid (ChgW w t Bl Bt Bs (ds ++ chgT t ((e, a1, k, m, s), takeS ra (e, a1, k, m, s), takeS rb (e, a1, k, m, s))) x3) := ⟨⟨v3, hr1, hr2⟩, hk3.boxed HC4.out.t hne (by decide), hk3.boxed HC4.out.say hns (by decide), HC4.out.below.trans hb3'⟩
        have hy3 := hk3.boxed HX4'.out.1 n1.symm (by decide)
        have hy4 := hk3.boxed HX4'.out.2 n4.symm (by decide)
        have HY := Lib.hid (And.intro hy3 hy4)
        have HLN : Hid ((ds ++ chgT t ((e, a1, k, m, s), takeS ra (e, a1, k, m, s), takeS rb (e, a1, k, m, s))).length + 2 * (sumS (takeR ra (e, a1, k, m, s)) + sumS (takeR rb (e, a1, k, m, s))) ≤ 2 * (sumS a + sumS b)) := by
          show _ ≤ _
          rw [List.length_append]
          simp only at l5
          omega
        clear l1 l2 l3 l4 l5 hv1 hv2 hr1 hr2 hk3 hb3' hy3 hy4 HX4' HC4
        try simp only [Act.put, List.setIfInBounds_toArray, List.set_cons_zero, List.set_cons_succ]
        refine wpAnyH_done (by kernel_rfl) ?_ _
        go_wp2
        go_roundg ((takeR ra (e, a1, k, m, s)).length + (takeR rb (e, a1, k, m, s)).length)
        case measure => exact HLE.out
        case rel => exact ⟨_, _, A5, A6, c5, c6, _, rfl, HFA1.out, HFB2.out, HY.out.1, HY.out.2, HC5.out, by rw [HAL.out, HST.out, List.append_assoc], (takeR_sub _ _).trans HSA.out, (takeR_sub _ _).trans HSB.out, HLN.out⟩
      · have da : decide ((0 : Int) < (ra.length : Int)) = false := decide_eq_false (by omega)
        have db : decide ((0 : Int) < (rb.length : Int)) = true := decide_eq_true (by omega)
        go_wp2_with fail
        refine HLS.out.mono ?_
        rintro en w1 ⟨rfl, hb1⟩
        have hcw1 := HCW.out.next hb1
        obtain ⟨hx3, hx4⟩ := HXX.out
        have hx31 : Boxed w1 b3 22 (.slice A' ra.length c') := (hb1.block _ hx3.lt).trans hx3
        have hx41 : Boxed w1 b4 22 (.slice B' rb.length d') := (hb1.block _ hx4.lt).trans hx4
        obtain ⟨w2, hw2⟩ : ∃ w2, w1.alloc (.cells #[.int .i64 e, .int .i64 a1, .int .i64 k, .int .i64 m, .string s] 81) = w2 := ⟨_, rfl⟩
        have hb2 : Below w1.heap.size w1 w2 := by rw [← hw2]; exact (Below.refl _ w1).alloc (Nat.le_refl _) _
        have HTR : Hid (TrAt w2 w1.heap.size e a1 k m s) := by rw [← hw2]; exact trAt_new w1 e a1 k m s
        have HC2 := Lib.hid ((hcw1.next hb2).next (below_ind (Below.refl _ w2) 1))
        have hx32 : Boxed w2 b3 22 (.slice A' ra.length c') := (hb2.block _ hx31.lt).trans hx31
        have hx42 : Boxed w2 b4 22 (.slice B' rb.length d') := (hb2.block _ hx41.lt).trans hx41
        have m3 : w1.heap.size ≠ b3 := by have := hx31.lt; omega
        have m4 : w1.heap.size ≠ b4 := by have := hx41.lt; omega
        have HNL : Hid (w1.heap.size ≠ Bl) := by obtain ⟨v, g1, _⟩ := hcw1.row; have := g1.lt; show _ ≠ _; omega
        have HX := Lib.hid (And.intro hx32 hx42)
        clear hcw1 hx3 hx4 hx31 hx41 hx32 hx42 hb1 hb2 z3 z4
        go_upto_region 4 with (fail)
        try rw [hw2]
        clear hw2
        refine wp_region_held_drew (S := fun X => TrAt X w1.heap.size e a1 k m s) (by kernel_rfl) HTR.out (fun hHeld => ?_)
        refine takeV 0 (some 19) ((.func (.func 46) #[] #[.pointer (some ⟨Bs, 0, none⟩)])) rfl rfl (by kernel_rfl) (by kernel_rfl) (by kernel_rfl) (fun _ _ _ h => h) (by rfl) (by (intro _w _hSw; (try dsimp only at _hSw); go_simp)) (by assumption) ?_
        simp only [Act.put, List.setIfInBounds_toArray, List.set_cons_zero, List.set_cons_succ]
        refine takeV 1 (some 20) ((.agg #[.int .i64 e, .int .i64 a1, .int .i64 k, .int .i64 m, .string s])) rfl rfl (by kernel_rfl) (by kernel_rfl) (by kernel_rfl) (fun _ _ _ h => h) (by rfl) (by (intro _w hSw; have q0 := hSw.k0; have q1 := hSw.k1; have q2 := hSw.k2; have q3 := hSw.k3; have q4 := hSw.k4; clear hSw; go_simp)) (by assumption) ?_
        simp only [Act.put, List.setIfInBounds_toArray, List.set_cons_zero, List.set_cons_succ]
        refine takeV 2 (some 21) ((.func (.func 69) #[] #[])) rfl rfl (by kernel_rfl) (by kernel_rfl) (by kernel_rfl) (fun _ _ _ h => h) (by rfl) (by (intro _w _hSw; (try dsimp only at _hSw); go_simp)) (by assumption) ?_
        simp only [Act.put, List.setIfInBounds_toArray, List.set_cons_zero, List.set_cons_succ]
        refine takeV 3 (some 22) ((.agg #[.int .i64 e, .int .i64 a1, .int .i64 k, .int .i64 m, .string s])) rfl rfl (by kernel_rfl) (by kernel_rfl) (by kernel_rfl) (fun _ _ _ h => h) (by rfl) (by (intro _w hSw; have q0 := hSw.k0; have q1 := hSw.k1; have q2 := hSw.k2; have q3 := hSw.k3; have q4 := hSw.k4; clear hSw; go_simp)) (by assumption) ?_
        simp only [Act.put, List.setIfInBounds_toArray, List.set_cons_zero, List.set_cons_succ]
        refine takeV 5 (some 24) ((.func (.func 69) #[] #[])) rfl rfl (by kernel_rfl) (by kernel_rfl) (by kernel_rfl) (fun _ _ _ h => h) (by rfl) (by (intro _w _hSw; (try dsimp only at _hSw); go_simp)) (by assumption) ?_
        simp only [Act.put, List.setIfInBounds_toArray, List.set_cons_zero, List.set_cons_succ]
        refine takeV 6 (some 25) ((.agg #[.int .i64 e, .int .i64 a1, .int .i64 k, .int .i64 m, .string s])) rfl rfl (by kernel_rfl) (by kernel_rfl) (by kernel_rfl) (fun _ _ _ h => h) (by rfl) (by (intro _w hSw; have q0 := hSw.k0; have q1 := hSw.k1; have q2 := hSw.k2; have q3 := hSw.k3; have q4 := hSw.k4; clear hSw; go_simp)) (by assumption) ?_
        simp only [Act.put, List.setIfInBounds_toArray, List.set_cons_zero, List.set_cons_succ]
        refine callV 4 rfl (by kernel_rfl) (by rfl) (fun K hK => ?_)
        go_simp
        go_at_call 69
        refine (take_any e a1 k m s A' c' ra w _ b3 HFA.out HC2.out.below n8 HX.out.1).mono ?_
        rintro en x1 ⟨u1, A5, c5, rfl, hsv1, hfa1, hbx1, hkx1, hbl1⟩
        refine hK.out _ _ (hkx1.trAt hHeld m3) (fun hHeld => ?_)
        clear hK K
        obtain ⟨U1, j1, rfl, _⟩ := id hsv1
        have HC3 := Lib.hid (HC2.out.keepX HX.out.1 hkx1 hbl1 n1 n2 n3)
        have hx43 : Boxed x1 b4 22 (.slice B' rb.length d') := hkx1.boxed HX.out.2 n7.symm
        have HX3' := Lib.hid (And.intro hbx1 hx43)
        have HS1 := Lib.hid hsv1
        have HFA1 := Lib.hid hfa1
        clear hsv1 hfa1 hbx1 hkx1 hbl1 hx43 HX HC2
        try simp only [Act.put, List.setIfInBounds_toArray, List.set_cons_zero, List.set_cons_succ]
        refine callV 7 rfl (by kernel_rfl) (by rfl) (fun K hK => ?_)
        go_simp
        go_at_call 69
        refine (take_any e a1 k m s B' d' rb w _ b4 HFB.out HC3.out.below n9 HX3'.out.2).mono ?_
        rintro en x2 ⟨u2, A6, c6, rfl, hsv2, hfb2, hbx2, hkx2, hbl2⟩
        refine hK.out _ _ (hkx2.trAt hHeld m4) (fun hHeld => ?_)
        clear hK K
        obtain ⟨U2, j2, rfl, _⟩ := id hsv2
        have HC4 := Lib.hid (HC3.out.keepX HX3'.out.2 hkx2 hbl2 n4 n5 n6)
        have hx34 : Boxed x2 b3 22 (.slice A5 (takeR ra (e, a1, k, m, s)).length c5) := hkx2.boxed HX3'.out.1 n7
        have HX4' := Lib.hid (And.intro hx34 hbx2)
        have HS2 := Lib.hid hsv2
        have HFB2 := Lib.hid hfb2
        clear hsv2 hfb2 hbx2 hkx2 hbl2 hx34 HX3' HC3
        try simp only [Act.put, List.setIfInBounds_toArray, List.set_cons_zero, List.set_cons_succ]
        refine callV 8 rfl (by kernel_rfl) (by rfl) (fun K hK => ?_)
        go_simp
        go_at_call 46
        obtain ⟨v, hv1, hv2⟩ := HC4.out.row
        have l1 := takeS_len ra (e, a1, k, m, s)
        have l2 := takeS_len rb (e, a1, k, m, s)
        have l3 := sumS_take ra (e, a1, k, m, s)
        have l4 := sumS_take rb (e, a1, k, m, s)
        have l5 := chgT_len t ((e, a1, k, m, s), takeS ra (e, a1, k, m, s), takeS rb (e, a1, k, m, s))
        refine (sayBoth_any e a1 k m s t (takeS ra (e, a1, k, m, s)) (takeS rb (e, a1, k, m, s)) _ _ v w.heap.size Bl Bt Bs ds w _ hBl rfl HC4.out.below hv1 hv2 HC4.out.t hne HC4.out.say hns HS1.out HS2.out (goodF_take HGA.out HSA.out _).1 (goodF_take HGB.out HSB.out _).1 (goodF_take HGA.out HSA.out _).2 (goodF_take HGB.out HSB.out _).2 (by omega) (by omega)).mono ?_
        rintro en x3 ⟨rfl, ⟨v3, hr1, hr2⟩, hk3, hb3'⟩
        refine hK.out _ _ (hk3.trAt hHeld HNL.out) (fun hHeld => ?_)
        clear hK K hHeld
        have HC5 : Hid (ChgW w t Bl Bt Bs (ds ++ chgT t ((e, a1, k, m, s), takeS ra (e, a1, k, m, s), takeS rb (e, a1, k, m, s))) x3) := ⟨⟨v3, hr1, hr2⟩, hk3.boxed HC4.out.t hne (by decide), hk3.boxed HC4.out.say hns (by decide), HC4.out.below.trans hb3'⟩
        have hy3 := hk3.boxed HX4'.out.1 n1.symm (by decide)
        have hy4 := hk3.boxed HX4'.out.2 n4.symm (by decide)
        have HY := Lib.hid (And.intro hy3 hy4)
        have HLN : Hid ((ds ++ chgT t ((e, a1, k, m, s), takeS ra (e, a1, k, m, s), takeS rb (e, a1, k, m, s))).length + 2 * (sumS (takeR ra (e, a1, k, m, s)) + sumS (takeR rb (e, a1, k, m, s))) ≤ 2 * (sumS a + sumS b)) := by
          show _ ≤ _
          rw [List.length_append]
          simp only at l5
          omega
        clear l1 l2 l3 l4 l5 hv1 hv2 hr1 hr2 hk3 hb3' hy3 hy4 HX4' HC4
        try simp only [Act.put, List.setIfInBounds_toArray, List.set_cons_zero, List.set_cons_succ]
        refine wpAnyH_done (by kernel_rfl) ?_ _
        go_wp2
        go_roundg ((takeR ra (e, a1, k, m, s)).length + (takeR rb (e, a1, k, m, s)).length)
        case measure => exact HLE.out
        case rel => exact ⟨_, _, A5, A6, c5, c6, _, rfl, HFA1.out, HFB2.out, HY.out.1, HY.out.2, HC5.out, by rw [HAL.out, HST.out, List.append_assoc], (takeR_sub _ _).trans HSA.out, (takeR_sub _ _).trans HSB.out, HLN.out⟩
end Go.Proofs.Ytdhnajhfkmmjnaa
