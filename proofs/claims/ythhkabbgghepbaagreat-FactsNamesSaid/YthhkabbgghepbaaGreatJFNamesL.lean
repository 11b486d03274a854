import Derived.Test.YthhkabbgghepbaaGreatJFLeast
import Derived.Test.YthhkabbgghepbaaGreatJVSl
import Derived.Test.YthhkabbgghepbaaGreatJFOrderL
import Derived.Test.YthhkabbgghepbaaGreatJDSorted
import Derived.Test.YthhkabbgghepbaaGreatJSSame
import Derived.Test.YthhkabbgghepbaaGreatJFAlive
import Derived.Test.YthhkabbgghepbaaGreatJFTurn
import Derived.Test.YthhkabbgghepbaaGreatJDComp
/-
  CONTRACTS: together and Changes.
-/
namespace Go.Proofs.YthhkabbgghepbaaGreat
open Go.RowKit Go.Shelf

theorem minusL_len (a b : List Sp) : (minusL a b).length ≤ a.length + b.length := by
  by_cases hx : ∃ r, SetL r ∧ ∀ t, Inn r t ↔ Inn a t ∧ ¬ Inn b t
  · obtain ⟨r, r1, r2⟩ := hx
    have e1 := minusL_is r1 r2
    have := minusL_few (a := a) (b := b) (by rw [e1]; exact r1) (by rw [e1]; exact r2)
    omega
  · unfold minusL
    rw [dif_neg hx]
    exact Nat.zero_le _
theorem chgT_len (t : Int) (q : Tri × List Sp × List Sp) : (chgT t q).length ≤ 2 * (q.2.1.length + q.2.2.length) := by
  unfold chgT
  rw [List.length_append, List.length_map, List.length_map]
  have h1 := minusL_len q.2.2 q.2.1
  have h2 := minusL_len q.2.1 q.2.2
  omega
/-- facts whose spans are sets of instants -/
def GoodF (l : List FactP) : Prop := ∀ f ∈ l, SetL f.l ∧ ∀ q ∈ f.l, SpOk q
theorem goodF_take {l r : List FactP} (h : GoodF l) (hs : r.Sublist l) (p : Tri) : SetL (takeS r p) ∧ ∀ q ∈ takeS r p, SpOk q := by
  rcases takeS_cases r p with e | ⟨f, hf, e, _⟩
  · rw [e]; exact ⟨setL_nil, fun q hq => by cases hq⟩
  · rw [e]; exact h f (hs.subset hf)
theorem takeS_len (l : List FactP) (p : Tri) : (takeS l p).length ≤ sumS l := by have := sumS_take l p; omega
def sayV (Bl Bt : Nat) : Value := .func (.func 48) #[] #[.pointer (some ⟨Bl, 0, none⟩), .pointer (some ⟨Bt, 0, none⟩)]
/-- the boxes of Changes, and what has been said -/
structure ChgW (w : World) (t : Int) (Bl Bt Bs : Nat) (ds : List Dat) (W : World) : Prop where
  row : ∃ v, Boxed W Bl 22 v ∧ OwnD W w.heap.size v ds
  t : Boxed W Bt 2 (.int .i64 t)
  say : Boxed W Bs 96 (sayV Bl Bt)
  below : Below w.heap.size w W
theorem ChgW.next {w W W' : World} {t : Int} {Bl Bt Bs : Nat} {ds : List Dat} (h : ChgW w t Bl Bt Bs ds W) (hb : Below W.heap.size W W') : ChgW w t Bl Bt Bs ds W' := by
  obtain ⟨v, h1, h2⟩ := h.row
  exact ⟨⟨v, (hb.block _ h1.lt).trans h1, h2.next hb⟩, (hb.block _ h.t.lt).trans h.t, (hb.block _ h.say.lt).trans h.say, h.below.trans (hb.mono h.below.size)⟩
theorem ChgW.keepX {w W W' : World} {t : Int} {Bl Bt Bs Bx : Nat} {ds : List Dat} {u : Value} (h : ChgW w t Bl Bt Bs ds W) (hx : Boxed W Bx 26 u) (hk : KeepX Bx W W') (hb : Below w.heap.size W W') (h1 : Bl ≠ Bx) (h2 : Bt ≠ Bx) (h3 : Bs ≠ Bx) : ChgW w t Bl Bt Bs ds W' := by
  obtain ⟨v, g1, g2⟩ := h.row
  exact ⟨⟨v, hk.boxed g1 h1, hk.ownD g2 hx (by decide) hb.os hb.tape hb.output⟩, hk.boxed h.t h2, hk.boxed h.say h3, h.below.trans hb⟩
/-- together, on its way -/
def TogI (w : World) (t : Int) (Bl Bt Bs b3 b4 : Nat) (a b : List FactP) (all : List Dat) (n : Nat) (W : World) : Prop :=
  ∃ (ra rb : List FactP) (A B : Option Addr) (c d : Nat) (ds : List Dat), n = ra.length + rb.length ∧ FVa w (.slice A ra.length c) ra ∧ FVa w (.slice B rb.length d) rb ∧ Boxed W b3 26 (.slice A ra.length c) ∧ Boxed W b4 26 (.slice B rb.length d) ∧
    ChgW w t Bl Bt Bs ds W ∧ all = ds ++ chgL ra rb t ∧ ra.Sublist a ∧ rb.Sublist b ∧ ds.length + 2 * (sumS ra + sumS rb) ≤ 2 * (sumS a + sumS b)
theorem sumS_sub {r l : List FactP} (h : r.Sublist l) : sumS r ≤ sumS l := by
  induction h with
  | slnil => exact Nat.le_refl _
  | cons x _ ih => unfold sumS at ih ⊢; simp; omega
  | cons_cons x _ ih => unfold sumS at ih ⊢; simp; omega
set_option maxRecDepth 100000 in
set_option maxHeartbeats 4000000 in
theorem together_any (t : Int) (Bl Bt Bs : Nat) (A B : Option Addr) (c d : Nat) (a b : List FactP) (ds : List Dat) (w W : World) (ha : FVa w (.slice A a.length c) a) (hb : FVa w (.slice B b.length d) b) (hw : ChgW w t Bl Bt Bs ds W) (hd : ds = [])
    (hBl : w.heap.size ≤ Bl) (hne : Bt ≠ Bl) (hns : Bs ≠ Bl) (h1 : Bl < W.heap.size) (h2 : Bt < W.heap.size) (h3 : Bs < W.heap.size) (hga : GoodF a) (hgb : GoodF b) (hs : sumS a + sumS b ≤ 5000) :
    Calls Tryz.prog 50 #[.slice A a.length c, .slice B b.length d, .func (.func 51) #[] #[.pointer (some ⟨Bs, 0, none⟩)]] W fun en W' => en = .returned (.tuple #[]) ∧ ChgW w t Bl Bt Bs (chgL a b t) W' := by
  obtain ⟨w0, hw0⟩ : ∃ w0, (W.alloc (.cells #[.slice A a.length c] 26)).alloc (.cells #[.slice B b.length d] 26) = w0 := ⟨_, rfl⟩
  have hb0 : Below W.heap.size W w0 := by rw [← hw0]; exact ((Below.refl _ W).alloc (Nat.le_refl _) _).alloc (by simp) _
  have HX3 : Hid (Boxed w0 W.heap.size 26 (.slice A a.length c)) := by rw [← hw0]; exact (Boxed.new W 26 (.slice A a.length c)).alloc _
  have HX4 : Hid (Boxed w0 (W.heap.size + 1) 26 (.slice B b.length d)) := by
    rw [← hw0]
    have := Boxed.new (W.alloc (.cells #[.slice A a.length c] 26)) 26 (.slice B b.length d)
    rwa [World.size_alloc] at this
  have HW0 := Lib.hid (hw.next hb0)
  have HAB := Lib.hid (And.intro ha hb)
  have HGA := Lib.hid hga
  have HGB := Lib.hid hgb
  have HWB : Hid (w.heap.size ≤ W.heap.size) := hw.below.size
  subst hd
  clear ha hb hw hb0 hga hgb
  obtain ⟨b3, hb3⟩ : ∃ b, b = W.heap.size := ⟨_, rfl⟩
  obtain ⟨b4, hb4⟩ : ∃ b, b = W.heap.size + 1 := ⟨_, rfl⟩
  rw [← hb3] at HX3
  rw [← hb4] at HX4
  have n1 : Bl ≠ b3 := by omega
  have n2 : Bt ≠ b3 := by omega
  have n3 : Bs ≠ b3 := by omega
  have n4 : Bl ≠ b4 := by omega
  have n5 : Bt ≠ b4 := by omega
  have n6 : Bs ≠ b4 := by omega
  have n7 : b3 ≠ b4 := by omega
  have n8 : w.heap.size ≤ b3 := by have := HWB.out; omega
  have n9 : w.heap.size ≤ b4 := by have := HWB.out; omega
  go_enter Tryz.func50, Tryz.ntmps50
  go_upto_region 1 with (fail)
  try rw [hw0]
  clear hw0
  rw [← hb4, ← hb3]
  clear hb3 hb4
  go_wp2
  go_loopg [7] (a.length + b.length) (fun g _ wr => Hid (TogI w t Bl Bt Bs b3 b4 a b (chgL a b t) g wr))
  case atStart => exact ⟨a, b, A, B, c, d, [], rfl, HAB.out.1, HAB.out.2, HX3.out, HX4.out, HW0.out, rfl, List.Sublist.refl _, List.Sublist.refl _, by simp⟩
  case round =>
    obtain ⟨ra, rb, A', B', c', d', ds, rfl, hfa, hfb, hx3, hx4, hcw, hall, hsa, hsb, hlen⟩ := hrel.out
    have z3 := hx3.cell
    have z4 := hx4.cell
    have HAL := Lib.hid hall
    have HCW := Lib.hid hcw
    have HFA := Lib.hid hfa
    have HFB := Lib.hid hfb
    have HXX := Lib.hid (And.intro hx3 hx4)
    have HSA := Lib.hid hsa
    have HSB := Lib.hid hsb
    have q1 := sumS_sub hsa
    have q2 := sumS_sub hsb
    clear hrel hall hcw hfa hfb hx3 hx4 hsa hsb
    by_cases hemp : ra = [] ∧ rb = []
    · obtain ⟨rfl, rfl⟩ := hemp
      simp only [List.length_nil] at z3 z4
      have HE : Hid (chgL a b t = ds) := by show _ = _; rw [HAL.out, chgL_nil, List.append_nil]
      go_wp2
      go_end0
      exact ⟨rfl, by rw [HE.out]; exact HCW.out⟩
    · obtain ⟨⟨e, a1, k, m, s⟩, hp⟩ : ∃ x, leastT ra rb = x := ⟨_, rfl⟩
      have hlst := least_any A' B' c' d' ra rb wr (HFA.out.next HCW.out.below) (HFB.out.next HCW.out.below) hemp
      rw [hp] at hlst
      have HLS := Lib.hid hlst
      have hstep := chgL_step hemp t
      have hless := tog_less hemp
      rw [hp] at hstep hless
      have HST := Lib.hid hstep
      have HLE := Lib.hid hless
      have HPOS : Hid (0 < ra.length ∨ 0 < rb.length) := by
        show _ ∨ _
        by_cases h : ra = []
        · exact .inr (List.length_pos_iff.2 fun h' => hemp ⟨h, h'⟩)
        · exact .inl (List.length_pos_iff.2 h)
      clear hlst hstep hless hemp hp
      have key : ∀ (Q : Prop), (0 < ra.length → Q) → (¬ 0 < ra.length → 0 < rb.length → Q) → Q := fun Q h1 h2 => by
        by_cases h : 0 < ra.length
        · exact h1 h
        · exact h2 h (HPOS.out.resolve_left h)
      refine key _ (fun hra => ?_) (fun hra hrb => ?_)
      · have da : decide ((0 : Int) < (ra.length : Int)) = true := decide_eq_true (by omega)
        go_wp2_with fail
        refine HLS.out.mono ?_
        rintro en w1 ⟨rfl, hb1⟩
        have hcw1 := HCW.out.next hb1
        obtain ⟨hx3, hx4⟩ := HXX.out
        have hx31 : Boxed w1 b3 26 (.slice A' ra.length c') := (hb1.block _ hx3.lt).trans hx3
        have hx41 : Boxed w1 b4 26 (.slice B' rb.length d') := (hb1.block _ hx4.lt).trans hx4
        obtain ⟨w2, hw2⟩ : ∃ w2, w1.alloc (.cells #[.int .i64 e, .int .i64 a1, .int .i64 k, .int .i64 m, .string s] 71) = w2 := ⟨_, rfl⟩
        have hb2 : Below w1.heap.size w1 w2 := by rw [← hw2]; exact (Below.refl _ w1).alloc (Nat.le_refl _) _
        have HTR : Hid (TrAt w2 w1.heap.size e a1 k m s) := by rw [← hw2]; exact trAt_new w1 e a1 k m s
        have HC2 := Lib.hid ((hcw1.next hb2).next (below_ind (Below.refl _ w2) 1))
        have hx32 : Boxed w2 b3 26 (.slice A' ra.length c') := (hb2.block _ hx31.lt).trans hx31
        have hx42 : Boxed w2 b4 26 (.slice B' rb.length d') := (hb2.block _ hx41.lt).trans hx41
        have m3 : w1.heap.size ≠ b3 := by have := hx31.lt; omega
        have m4 : w1.heap.size ≠ b4 := by have := hx41.lt; omega
        have HNL : Hid (w1.heap.size ≠ Bl) := by obtain ⟨v, g1, _⟩ := hcw1.row; have := g1.lt; show _ ≠ _; omega
        have HX := Lib.hid (And.intro hx32 hx42)
        clear hcw1 hx3 hx4 hx31 hx41 hx32 hx42 hb1 hb2 z3 z4
        go_upto_region 4 with (fail)
        try rw [hw2]
        clear hw2
        refine wp_region_held_drew (S := fun X => TrAt X w1.heap.size e a1 k m s) (by kernel_rfl) HTR.out (fun hHeld => ?_)
        refine takeV 0 (some 19) ((.func (.func 51) #[] #[.pointer (some ⟨Bs, 0, none⟩)])) rfl rfl (by kernel_rfl) (by kernel_rfl) (by kernel_rfl) (fun _ _ _ h => h) (by rfl) (by (intro _w _hSw; (try dsimp only at _hSw); go_simp)) (by assumption) ?_
        simp only [Act.put, List.setIfInBounds_toArray, List.set_cons_zero, List.set_cons_succ]
        refine takeV 1 (some 20) ((.agg #[.int .i64 e, .int .i64 a1, .int .i64 k, .int .i64 m, .string s])) rfl rfl (by kernel_rfl) (by kernel_rfl) (by kernel_rfl) (fun _ _ _ h => h) (by rfl) (by (intro _w hSw; have q0 := hSw.k0; have q1 := hSw.k1; have q2 := hSw.k2; have q3 := hSw.k3; have q4 := hSw.k4; clear hSw; go_simp)) (by assumption) ?_
        simp only [Act.put, List.setIfInBounds_toArray, List.set_cons_zero, List.set_cons_succ]
        refine takeV 2 (some 21) ((.func (.func 77) #[] #[])) rfl rfl (by kernel_rfl) (by kernel_rfl) (by kernel_rfl) (fun _ _ _ h => h) (by rfl) (by (intro _w _hSw; (try dsimp only at _hSw); go_simp)) (by assumption) ?_
        simp only [Act.put, List.setIfInBounds_toArray, List.set_cons_zero, List.set_cons_succ]
        refine takeV 3 (some 22) ((.agg #[.int .i64 e, .int .i64 a1, .int .i64 k, .int .i64 m, .string s])) rfl rfl (by kernel_rfl) (by kernel_rfl) (by kernel_rfl) (fun _ _ _ h => h) (by rfl) (by (intro _w hSw; have q0 := hSw.k0; have q1 := hSw.k1; have q2 := hSw.k2; have q3 := hSw.k3; have q4 := hSw.k4; clear hSw; go_simp)) (by assumption) ?_
        simp only [Act.put, List.setIfInBounds_toArray, List.set_cons_zero, List.set_cons_succ]
        refine takeV 5 (some 24) ((.func (.func 77) #[] #[])) rfl rfl (by kernel_rfl) (by kernel_rfl) (by kernel_rfl) (fun _ _ _ h => h) (by rfl) (by (intro _w _hSw; (try dsimp only at _hSw); go_simp)) (by assumption) ?_
        simp only [Act.put, List.setIfInBounds_toArray, List.set_cons_zero, List.set_cons_succ]
        refine takeV 6 (some 25) ((.agg #[.int .i64 e, .int .i64 a1, .int .i64 k, .int .i64 m, .string s])) rfl rfl (by kernel_rfl) (by kernel_rfl) (by kernel_rfl) (fun _ _ _ h => h) (by rfl) (by (intro _w hSw; have q0 := hSw.k0; have q1 := hSw.k1; have q2 := hSw.k2; have q3 := hSw.k3; have q4 := hSw.k4; clear hSw; go_simp)) (by assumption) ?_
        simp only [Act.put, List.setIfInBounds_toArray, List.set_cons_zero, List.set_cons_succ]
        refine callV 4 rfl (by kernel_rfl) (by rfl) (fun K hK => ?_)
        go_simp
        go_at_call 77
        refine (take_any e a1 k m s A' c' ra w _ b3 HFA.out HC2.out.below n8 HX.out.1).mono ?_
        rintro en x1 ⟨u1, A5, c5, rfl, hsv1, hfa1, hbx1, hkx1, hbl1⟩
        refine hK.out _ _ (hkx1.trAt hHeld m3) (fun hHeld => ?_)
        clear hK K
        obtain ⟨U1, j1, rfl, _⟩ := id hsv1
        have HC3 := Lib.hid (HC2.out.keepX HX.out.1 hkx1 hbl1 n1 n2 n3)
        have hx43 : Boxed x1 b4 26 (.slice B' rb.length d') := hkx1.boxed HX.out.2 n7.symm
        have HX3' := Lib.hid (And.intro hbx1 hx43)
        have HS1 := Lib.hid hsv1
        have HFA1 := Lib.hid hfa1
        clear hsv1 hfa1 hbx1 hkx1 hbl1 hx43 HX HC2
        try simp only [Act.put, List.setIfInBounds_toArray, List.set_cons_zero, List.set_cons_succ]
        refine callV 7 rfl (by kernel_rfl) (by rfl) (fun K hK => ?_)
        go_simp
        go_at_call 77
        refine (take_any e a1 k m s B' d' rb w _ b4 HFB.out HC3.out.below n9 HX3'.out.2).mono ?_
        rintro en x2 ⟨u2, A6, c6, rfl, hsv2, hfb2, hbx2, hkx2, hbl2⟩
        refine hK.out _ _ (hkx2.trAt hHeld m4) (fun hHeld => ?_)
        clear hK K
        obtain ⟨U2, j2, rfl, _⟩ := id hsv2
        have HC4 := Lib.hid (HC3.out.keepX HX3'.out.2 hkx2 hbl2 n4 n5 n6)
        have hx34 : Boxed x2 b3 26 (.slice A5 (takeR ra (e, a1, k, m, s)).length c5) := hkx2.boxed HX3'.out.1 n7
        have HX4' := Lib.hid (And.intro hx34 hbx2)
        have HS2 := Lib.hid hsv2
        have HFB2 := Lib.hid hfb2
        clear hsv2 hfb2 hbx2 hkx2 hbl2 hx34 HX3' HC3
        try simp only [Act.put, List.setIfInBounds_toArray, List.set_cons_zero, List.set_cons_succ]
        refine callV 8 rfl (by kernel_rfl) (by rfl) (fun K hK => ?_)
        go_simp
        go_at_call 51
        obtain ⟨v, hv1, hv2⟩ := HC4.out.row
        have l1 := takeS_len ra (e, a1, k, m, s)
        have l2 := takeS_len rb (e, a1, k, m, s)
        have l3 := sumS_take ra (e, a1, k, m, s)
        have l4 := sumS_take rb (e, a1, k, m, s)
        have l5 := chgT_len t ((e, a1, k, m, s), takeS ra (e, a1, k, m, s), takeS rb (e, a1, k, m, s))
        refine (sayBoth_any e a1 k m s t (takeS ra (e, a1, k, m, s)) (takeS rb (e, a1, k, m, s)) _ _ v w.heap.size Bl Bt Bs ds w _ hBl rfl HC4.out.below hv1 hv2 HC4.out.t hne HC4.out.say hns HS1.out HS2.out (goodF_take HGA.out HSA.out _).1 (goodF_take HGB.out HSB.out _).1 (goodF_take HGA.out HSA.out _).2 (goodF_take HGB.out HSB.out _).2 (by omega) (by omega)).mono ?_
        rintro en x3 ⟨rfl, ⟨v3, hr1, hr2⟩, hk3, hb3'⟩
        refine hK.out _ _ (hk3.trAt hHeld HNL.out) (fun hHeld => ?_)
        clear hK K hHeld
        have HC5 : Hid (ChgW w t Bl Bt Bs (ds ++ chgT t ((e, a1, k, m, s), takeS ra (e, a1, k, m, s), takeS rb (e, a1, k, m, s))) x3) := ⟨⟨v3, hr1, hr2⟩, hk3.boxed HC4.out.t hne (by decide), hk3.boxed HC4.out.say hns (by decide), HC4.out.below.trans hb3'⟩
        have hy3 := hk3.boxed HX4'.out.1 n1.symm (by decide)
        have hy4 := hk3.boxed HX4'.out.2 n4.symm (by decide)
        have HY := Lib.hid (And.intro hy3 hy4)
        have HLN : Hid ((ds ++ chgT t ((e, a1, k, m, s), takeS ra (e, a1, k, m, s), takeS rb (e, a1, k, m, s))).length + 2 * (sumS (takeR ra (e, a1, k, m, s)) + sumS (takeR rb (e, a1, k, m, s))) ≤ 2 * (sumS a + sumS b)) := by
          show _ ≤ _
          rw [List.length_append]
          simp only at l5
          omega
        clear l1 l2 l3 l4 l5 hv1 hv2 hr1 hr2 hk3 hb3' hy3 hy4 HX4' HC4
        try simp only [Act.put, List.setIfInBounds_toArray, List.set_cons_zero, List.set_cons_succ]
        refine wpAnyH_done (by kernel_rfl) ?_ _
        go_wp2
        go_roundg ((takeR ra (e, a1, k, m, s)).length + (takeR rb (e, a1, k, m, s)).length)
        case measure => exact HLE.out
        case rel => exact ⟨_, _, A5, A6, c5, c6, _, rfl, HFA1.out, HFB2.out, HY.out.1, HY.out.2, HC5.out, by rw [HAL.out, HST.out, List.append_assoc], (takeR_sub _ _).trans HSA.out, (takeR_sub _ _).trans HSB.out, HLN.out⟩
      · have da : decide ((0 : Int) < (ra.length : Int)) = false := decide_eq_false (by omega)
        have db : decide ((0 : Int) < (rb.length : Int)) = true := decide_eq_true (by omega)
        go_wp2_with fail
        refine HLS.out.mono ?_
        rintro en w1 ⟨rfl, hb1⟩
        have hcw1 := HCW.out.next hb1
        obtain ⟨hx3, hx4⟩ := HXX.out
        have hx31 : Boxed w1 b3 26 (.slice A' ra.length c') := (hb1.block _ hx3.lt).trans hx3
        have hx41 : Boxed w1 b4 26 (.slice B' rb.length d') := (hb1.block _ hx4.lt).trans hx4
        obtain ⟨w2, hw2⟩ : ∃ w2, w1.alloc (.cells #[.int .i64 e, .int .i64 a1, .int .i64 k, .int .i64 m, .string s] 71) = w2 := ⟨_, rfl⟩
        have hb2 : Below w1.heap.size w1 w2 := by rw [← hw2]; exact (Below.refl _ w1).alloc (Nat.le_refl _) _
        have HTR : Hid (TrAt w2 w1.heap.size e a1 k m s) := by rw [← hw2]; exact trAt_new w1 e a1 k m s
        have HC2 := Lib.hid ((hcw1.next hb2).next (below_ind (Below.refl _ w2) 1))
        have hx32 : Boxed w2 b3 26 (.slice A' ra.length c') := (hb2.block _ hx31.lt).trans hx31
        have hx42 : Boxed w2 b4 26 (.slice B' rb.length d') := (hb2.block _ hx41.lt).trans hx41
        have m3 : w1.heap.size ≠ b3 := by have := hx31.lt; omega
        have m4 : w1.heap.size ≠ b4 := by have := hx41.lt; omega
        have HNL : Hid (w1.heap.size ≠ Bl) := by obtain ⟨v, g1, _⟩ := hcw1.row; have := g1.lt; show _ ≠ _; omega
        have HX := Lib.hid (And.intro hx32 hx42)
        clear hcw1 hx3 hx4 hx31 hx41 hx32 hx42 hb1 hb2 z3 z4
        go_upto_region 4 with (fail)
        try rw [hw2]
        clear hw2
        refine wp_region_held_drew (S := fun X => TrAt X w1.heap.size e a1 k m s) (by kernel_rfl) HTR.out (fun hHeld => ?_)
        refine takeV 0 (some 19) ((.func (.func 51) #[] #[.pointer (some ⟨Bs, 0, none⟩)])) rfl rfl (by kernel_rfl) (by kernel_rfl) (by kernel_rfl) (fun _ _ _ h => h) (by rfl) (by (intro _w _hSw; (try dsimp only at _hSw); go_simp)) (by assumption) ?_
        simp only [Act.put, List.setIfInBounds_toArray, List.set_cons_zero, List.set_cons_succ]
        refine takeV 1 (some 20) ((.agg #[.int .i64 e, .int .i64 a1, .int .i64 k, .int .i64 m, .string s])) rfl rfl (by kernel_rfl) (by kernel_rfl) (by kernel_rfl) (fun _ _ _ h => h) (by rfl) (by (intro _w hSw; have q0 := hSw.k0; have q1 := hSw.k1; have q2 := hSw.k2; have q3 := hSw.k3; have q4 := hSw.k4; clear hSw; go_simp)) (by assumption) ?_
        simp only [Act.put, List.setIfInBounds_toArray, List.set_cons_zero, List.set_cons_succ]
        refine takeV 2 (some 21) ((.func (.func 77) #[] #[])) rfl rfl (by kernel_rfl) (by kernel_rfl) (by kernel_rfl) (fun _ _ _ h => h) (by rfl) (by (intro _w _hSw; (try dsimp only at _hSw); go_simp)) (by assumption) ?_
        simp only [Act.put, List.setIfInBounds_toArray, List.set_cons_zero, List.set_cons_succ]
        refine takeV 3 (some 22) ((.agg #[.int .i64 e, .int .i64 a1, .int .i64 k, .int .i64 m, .string s])) rfl rfl (by kernel_rfl) (by kernel_rfl) (by kernel_rfl) (fun _ _ _ h => h) (by rfl) (by (intro _w hSw; have q0 := hSw.k0; have q1 := hSw.k1; have q2 := hSw.k2; have q3 := hSw.k3; have q4 := hSw.k4; clear hSw; go_simp)) (by assumption) ?_
        simp only [Act.put, List.setIfInBounds_toArray, List.set_cons_zero, List.set_cons_succ]
        refine takeV 5 (some 24) ((.func (.func 77) #[] #[])) rfl rfl (by kernel_rfl) (by kernel_rfl) (by kernel_rfl) (fun _ _ _ h => h) (by rfl) (by (intro _w _hSw; (try dsimp only at _hSw); go_simp)) (by assumption) ?_
        simp only [Act.put, List.setIfInBounds_toArray, List.set_cons_zero, List.set_cons_succ]
        refine takeV 6 (some 25) ((.agg #[.int .i64 e, .int .i64 a1, .int .i64 k, .int .i64 m, .string s])) rfl rfl (by kernel_rfl) (by kernel_rfl) (by kernel_rfl) (fun _ _ _ h => h) (by rfl) (by (intro _w hSw; have q0 := hSw.k0; have q1 := hSw.k1; have q2 := hSw.k2; have q3 := hSw.k3; have q4 := hSw.k4; clear hSw; go_simp)) (by assumption) ?_
        simp only [Act.put, List.setIfInBounds_toArray, List.set_cons_zero, List.set_cons_succ]
        refine callV 4 rfl (by kernel_rfl) (by rfl) (fun K hK => ?_)
        go_simp
        go_at_call 77
        refine (take_any e a1 k m s A' c' ra w _ b3 HFA.out HC2.out.below n8 HX.out.1).mono ?_
        rintro en x1 ⟨u1, A5, c5, rfl, hsv1, hfa1, hbx1, hkx1, hbl1⟩
        refine hK.out _ _ (hkx1.trAt hHeld m3) (fun hHeld => ?_)
        clear hK K
        obtain ⟨U1, j1, rfl, _⟩ := id hsv1
        have HC3 := Lib.hid (HC2.out.keepX HX.out.1 hkx1 hbl1 n1 n2 n3)
        have hx43 : Boxed x1 b4 26 (.slice B' rb.length d') := hkx1.boxed HX.out.2 n7.symm
        have HX3' := Lib.hid (And.intro hbx1 hx43)
        have HS1 := Lib.hid hsv1
        have HFA1 := Lib.hid hfa1
        clear hsv1 hfa1 hbx1 hkx1 hbl1 hx43 HX HC2
        try simp only [Act.put, List.setIfInBounds_toArray, List.set_cons_zero, List.set_cons_succ]
        refine callV 7 rfl (by kernel_rfl) (by rfl) (fun K hK => ?_)
        go_simp
        go_at_call 77
        refine (take_any e a1 k m s B' d' rb w _ b4 HFB.out HC3.out.below n9 HX3'.out.2).mono ?_
        rintro en x2 ⟨u2, A6, c6, rfl, hsv2, hfb2, hbx2, hkx2, hbl2⟩
        refine hK.out _ _ (hkx2.trAt hHeld m4) (fun hHeld => ?_)
        clear hK K
        obtain ⟨U2, j2, rfl, _⟩ := id hsv2
        have HC4 := Lib.hid (HC3.out.keepX HX3'.out.2 hkx2 hbl2 n4 n5 n6)
        have hx34 : Boxed x2 b3 26 (.slice A5 (takeR ra (e, a1, k, m, s)).length c5) := hkx2.boxed HX3'.out.1 n7
        have HX4' := Lib.hid (And.intro hx34 hbx2)
        have HS2 := Lib.hid hsv2
        have HFB2 := Lib.hid hfb2
        clear hsv2 hfb2 hbx2 hkx2 hbl2 hx34 HX3' HC3
        try simp only [Act.put, List.setIfInBounds_toArray, List.set_cons_zero, List.set_cons_succ]
        refine callV 8 rfl (by kernel_rfl) (by rfl) (fun K hK => ?_)
        go_simp
        go_at_call 51
        obtain ⟨v, hv1, hv2⟩ := HC4.out.row
        have l1 := takeS_len ra (e, a1, k, m, s)
        have l2 := takeS_len rb (e, a1, k, m, s)
        have l3 := sumS_take ra (e, a1, k, m, s)
        have l4 := sumS_take rb (e, a1, k, m, s)
        have l5 := chgT_len t ((e, a1, k, m, s), takeS ra (e, a1, k, m, s), takeS rb (e, a1, k, m, s))
        refine (sayBoth_any e a1 k m s t (takeS ra (e, a1, k, m, s)) (takeS rb (e, a1, k, m, s)) _ _ v w.heap.size Bl Bt Bs ds w _ hBl rfl HC4.out.below hv1 hv2 HC4.out.t hne HC4.out.say hns HS1.out HS2.out (goodF_take HGA.out HSA.out _).1 (goodF_take HGB.out HSB.out _).1 (goodF_take HGA.out HSA.out _).2 (goodF_take HGB.out HSB.out _).2 (by omega) (by omega)).mono ?_
        rintro en x3 ⟨rfl, ⟨v3, hr1, hr2⟩, hk3, hb3'⟩
        refine hK.out _ _ (hk3.trAt hHeld HNL.out) (fun hHeld => ?_)
        clear hK K hHeld
        have HC5 : Hid (ChgW w t Bl Bt Bs (ds ++ chgT t ((e, a1, k, m, s), takeS ra (e, a1, k, m, s), takeS rb (e, a1, k, m, s))) x3) := ⟨⟨v3, hr1, hr2⟩, hk3.boxed HC4.out.t hne (by decide), hk3.boxed HC4.out.say hns (by decide), HC4.out.below.trans hb3'⟩
        have hy3 := hk3.boxed HX4'.out.1 n1.symm (by decide)
        have hy4 := hk3.boxed HX4'.out.2 n4.symm (by decide)
        have HY := Lib.hid (And.intro hy3 hy4)
        have HLN : Hid ((ds ++ chgT t ((e, a1, k, m, s), takeS ra (e, a1, k, m, s), takeS rb (e, a1, k, m, s))).length + 2 * (sumS (takeR ra (e, a1, k, m, s)) + sumS (takeR rb (e, a1, k, m, s))) ≤ 2 * (sumS a + sumS b)) := by
          show _ ≤ _
          rw [List.length_append]
          simp only at l5
          omega
        clear l1 l2 l3 l4 l5 hv1 hv2 hr1 hr2 hk3 hb3' hy3 hy4 HX4' HC4
        try simp only [Act.put, List.setIfInBounds_toArray, List.set_cons_zero, List.set_cons_succ]
        refine wpAnyH_done (by kernel_rfl) ?_ _
        go_wp2
        go_roundg ((takeR ra (e, a1, k, m, s)).length + (takeR rb (e, a1, k, m, s)).length)
        case measure => exact HLE.out
        case rel => exact ⟨_, _, A5, A6, c5, c6, _, rfl, HFA1.out, HFB2.out, HY.out.1, HY.out.2, HC5.out, by rw [HAL.out, HST.out, List.append_assoc], (takeR_sub _ _).trans HSA.out, (takeR_sub _ _).trans HSB.out, HLN.out⟩
end Go.Proofs.YthhkabbgghepbaaGreat

/-
  PLAIN FACTS: datoms, and behind them the changes from their fold to some facts, are folded to these.
-/
namespace Go.Proofs.YthhkabbgghepbaaGreat
open VOrd (IsOrd lexO lex_is ordI_is ordT_is ordT)

/-- the difference of two sets is there -/
theorem minusL_spec (a b : List Sp) : SetL (minusL a b) ∧ ∀ t, Inn (minusL a b) t ↔ Inn a t ∧ ¬ Inn b t := by
  obtain ⟨h1, h2⟩ := of_set (fun x y => x && !y) rfl a b
  have hr : ∀ t, Inn (ofL (fun x y => x && !y) a b [] (endsL (a ++ b))) t ↔ Inn a t ∧ ¬ Inn b t := fun t => by
    have := h2 t
    unfold innB at this
    rw [Bool.eq_iff_iff] at this
    simpa using this
  rw [minusL_is h1 hr]
  exact ⟨h1, hr⟩
theorem rise_cons {f : FactP} {a : List FactP} (h : RiseF (f :: a)) : (∀ g ∈ a, ordTr (triF f) (triF g) < 0) ∧ RiseF a := List.pairwise_cons.1 h
/-- the least triple stands at none's back -/
theorem least_le {a b : List FactP} (ha : RiseF a) (hb : RiseF b) : (∀ g ∈ a, ordTr (leastT a b) (triF g) ≤ 0) ∧ ∀ g ∈ b, ordTr (leastT a b) (triF g) ≤ 0 := by
  have zz : ∀ x, ordTr x x = 0 := fun x => (ordTr_is.zero x x).2 rfl
  have head : ∀ (f : FactP) (r : List FactP), RiseF (f :: r) → ∀ p, ordTr p (triF f) ≤ 0 → ∀ g ∈ f :: r, ordTr p (triF g) ≤ 0 := fun f r h p hp g hg => by
    rcases List.mem_cons.1 hg with rfl | hg
    · exact hp
    · exact ordTr_is.trans _ _ _ hp (Int.le_of_lt ((rise_cons h).1 g hg))
  cases a with
  | nil =>
    cases b with
    | nil => exact ⟨(fun g h => by cases h), (fun g h => by cases h)⟩
    | cons g b => exact ⟨(fun g h => by cases h), head g b hb _ (by show ordTr (triF g) (triF g) ≤ 0; rw [zz]; decide)⟩
  | cons f a =>
    cases b with
    | nil => exact ⟨head f a ha _ (by show ordTr (triF f) (triF f) ≤ 0; rw [zz]; decide), (fun g h => by cases h)⟩
    | cons g b =>
      by_cases h : ordTr (triF f) (triF g) < 0
      · have e : leastT (f :: a) (g :: b) = triF f := by show (if _ then _ else _) = _; rw [if_pos h]
        rw [e]
        exact ⟨head f a ha _ (by rw [zz]; decide), head g b hb _ (Int.le_of_lt h)⟩
      · have e : leastT (f :: a) (g :: b) = triF g := by show (if _ then _ else _) = _; rw [if_neg h]
        rw [e]
        have hs := ordTr_is.swap (triF f) (triF g)
        exact ⟨head f a ha _ (by omega), head g b hb _ (by rw [zz]; decide)⟩
theorem take_spans {a : List FactP} (ha : RiseF a) {p : Tri} (hp : ∀ g ∈ a, ordTr p (triF g) ≤ 0) : takeS a p = spansOf a p ∧ RiseF (takeR a p) ∧ (∀ g ∈ takeR a p, triF g ≠ p) ∧ (∀ x, x ≠ p → spansOf (takeR a p) x = spansOf a x) ∧ ∀ g ∈ a, triF g ≠ p → g ∈ takeR a p := by
  cases a with
  | nil => exact ⟨rfl, ha, (fun g h => by cases h), fun x _ => rfl, (fun g h => by cases h)⟩
  | cons f r =>
    obtain ⟨h1, h2⟩ := rise_cons ha
    by_cases hf : triF f = p
    · have e1 : takeS (f :: r) p = f.l := by unfold takeS; simp [hf]
      have e2 : takeR (f :: r) p = r := by unfold takeR; simp [hf]
      rw [e1, e2]
      refine ⟨by rw [← hf]; exact (spansOf_mem ha (by simp)).symm, h2, fun g hg e => ?_, fun x hx => ?_, fun g hg hne => ?_⟩
      · have := h1 g hg
        rw [hf, e] at this
        exact tri_irr _ this
      · unfold spansOf
        have hd : decide (triF f = x) = false := decide_eq_false (fun h => hx (by rw [← h, hf]))
        rw [List.find?_cons, hd]
      · rcases List.mem_cons.1 hg with rfl | hg
        · exact absurd hf hne
        · exact hg
    · have e1 : takeS (f :: r) p = [] := by unfold takeS; simp [hf]
      have e2 : takeR (f :: r) p = f :: r := by unfold takeR; simp [hf]
      have hlt : ∀ g ∈ f :: r, triF g ≠ p := fun g hg e => by
        rcases List.mem_cons.1 hg with rfl | hg
        · exact hf e
        · have k1 := h1 g hg
          have k2 := hp f (by simp)
          rw [e] at k1
          have k3 := ordTr_is.swap (triF f) p
          omega
      rw [e1, e2]
      exact ⟨(spansOf_none hlt).symm, ha, hlt, fun x _ => rfl, fun g hg _ => hg⟩
theorem tog_is : ∀ (n : Nat) (a b : List FactP), RiseF a → RiseF b → a.length + b.length ≤ n →
    (∀ q ∈ togL n a b, q.2.1 = spansOf a q.1 ∧ q.2.2 = spansOf b q.1 ∧ ((∃ f ∈ a, triF f = q.1) ∨ ∃ f ∈ b, triF f = q.1)) ∧ ∀ x, ((∃ f ∈ a, triF f = x) ∨ ∃ f ∈ b, triF f = x) → ∃ q ∈ togL n a b, q.1 = x
  | 0, a, b, _, _, h => by
    have h1 : a = [] := List.length_eq_zero_iff.1 (by omega)
    have h2 : b = [] := List.length_eq_zero_iff.1 (by omega)
    subst h1 h2
    exact ⟨(fun q hq => by cases hq), fun x hx => by rcases hx with ⟨f, hf, _⟩ | ⟨f, hf, _⟩ <;> cases hf⟩
  | n + 1, a, b, ha, hb, h => by
    by_cases he : a = [] ∧ b = []
    · obtain ⟨rfl, rfl⟩ := he
      rw [togL_nil]
      exact ⟨(fun q hq => by cases hq), fun x hx => by rcases hx with ⟨f, hf, _⟩ | ⟨f, hf, _⟩ <;> cases hf⟩
    · have hl := tog_less he
      obtain ⟨p1, p2⟩ := least_le ha hb
      have hpm : (∃ f ∈ a, triF f = leastT a b) ∨ ∃ f ∈ b, triF f = leastT a b := by
        cases a with
        | nil =>
          cases b with
          | nil => exact absurd ⟨rfl, rfl⟩ he
          | cons g b => exact .inr ⟨g, by simp, rfl⟩
        | cons f a =>
          cases b with
          | nil => exact .inl ⟨f, by simp, rfl⟩
          | cons g b =>
            by_cases h : ordTr (triF f) (triF g) < 0
            · exact .inl ⟨f, by simp, by show _ = (if _ then _ else _); rw [if_pos h]⟩
            · exact .inr ⟨g, by simp, by show _ = (if _ then _ else _); rw [if_neg h]⟩
      obtain ⟨p, hp⟩ : ∃ p, leastT a b = p := ⟨_, rfl⟩
      rw [hp] at hl p1 p2 hpm
      obtain ⟨s1, s2, s3, s4, s5⟩ := take_spans ha p1
      obtain ⟨t1, t2, t3, t4, t5⟩ := take_spans hb p2
      obtain ⟨i1, i2⟩ := tog_is n (takeR a p) (takeR b p) s2 t2 (by omega)
      have e : togL (n + 1) a b = (p, takeS a p, takeS b p) :: togL n (takeR a p) (takeR b p) := by
        show (if a = [] ∧ b = [] then [] else _) = _
        rw [if_neg he, hp]
      rw [e]
      refine ⟨fun q hq => ?_, fun x hx => ?_⟩
      · rcases List.mem_cons.1 hq with rfl | hq
        · exact ⟨s1, t1, hpm⟩
        · obtain ⟨j1, j2, j3⟩ := i1 q hq
          have hne : q.1 ≠ p := by
            rcases j3 with ⟨f, hf, e⟩ | ⟨f, hf, e⟩
            · rw [← e]; exact s3 f hf
            · rw [← e]; exact t3 f hf
          refine ⟨j1.trans (s4 _ hne), j2.trans (t4 _ hne), ?_⟩
          rcases j3 with ⟨f, hf, e⟩ | ⟨f, hf, e⟩
          · exact .inl ⟨f, (takeR_sub _ _).subset hf, e⟩
          · exact .inr ⟨f, (takeR_sub _ _).subset hf, e⟩
      · by_cases hxp : x = p
        · exact ⟨_, List.mem_cons_self, hxp.symm⟩
        · obtain ⟨q, hq, hqe⟩ := i2 x (by
            rcases hx with ⟨f, hf, e⟩ | ⟨f, hf, e⟩
            · exact .inl ⟨f, s5 f hf (by rw [e]; exact hxp), e⟩
            · exact .inr ⟨f, t5 f hf (by rw [e]; exact hxp), e⟩)
          exact ⟨q, List.mem_cons_of_mem _ hq, hqe⟩
/-- what is among the changes -/
theorem chg_mem {a b : List FactP} {t : Int} {d : Dat} (ha : RiseF a) (hb : RiseF b) (h : d ∈ chgL a b t) :
    d.t = t ∧ ((∃ f ∈ a, triF f = triD d) ∨ ∃ f ∈ b, triF f = triD d) ∧ ((d.add = true ∧ spD d ∈ minusL (spansOf b (triD d)) (spansOf a (triD d))) ∨ (d.add = false ∧ spD d ∈ minusL (spansOf a (triD d)) (spansOf b (triD d)))) := by
  obtain ⟨q, hq, hd⟩ := List.mem_flatMap.1 h
  obtain ⟨h1, h2, h3⟩ := (tog_is _ a b ha hb (Nat.le_refl _)).1 q hq
  obtain ⟨x, was, is⟩ := q
  simp only at h1 h2 h3
  subst h1 h2
  unfold chgT at hd
  rcases List.mem_append.1 hd with hd | hd
  · obtain ⟨s, hs, rfl⟩ := List.mem_map.1 hd
    exact ⟨rfl, h3, .inl ⟨rfl, hs⟩⟩
  · obtain ⟨s, hs, rfl⟩ := List.mem_map.1 hd
    exact ⟨rfl, h3, .inr ⟨rfl, hs⟩⟩
theorem mem_chg {a b : List FactP} {t : Int} (ha : RiseF a) (hb : RiseF b) {x : Tri} (hx : (∃ f ∈ a, triF f = x) ∨ ∃ f ∈ b, triF f = x) {s : Sp} :
    (s ∈ minusL (spansOf b x) (spansOf a x) → mkD x t true s ∈ chgL a b t) ∧ (s ∈ minusL (spansOf a x) (spansOf b x) → mkD x t false s ∈ chgL a b t) := by
  obtain ⟨q, hq, rfl⟩ := (tog_is _ a b ha hb (Nat.le_refl _)).2 x hx
  obtain ⟨h1, h2, _⟩ := (tog_is _ a b ha hb (Nat.le_refl _)).1 q hq
  obtain ⟨x, was, is⟩ := q
  simp only at h1 h2
  subst h1 h2
  refine ⟨fun h => List.mem_flatMap.2 ⟨_, hq, ?_⟩, fun h => List.mem_flatMap.2 ⟨_, hq, ?_⟩⟩
  · exact List.mem_append_left _ (List.mem_map.2 ⟨s, h, rfl⟩)
  · exact List.mem_append_right _ (List.mem_map.2 ⟨s, h, rfl⟩)
theorem spans_there {a : List FactP} {x : Tri} {t : Int} (h : Inn (spansOf a x) t) : ∃ f ∈ a, triF f = x := by
  obtain ⟨s, hs, _⟩ := h
  unfold spansOf at hs
  cases hq : a.find? (fun g => decide (triF g = x)) with
  | none => rw [hq] at hs; cases hs
  | some g =>
    have h2 := List.find?_some hq
    exact ⟨g, List.mem_of_find?_eq_some hq, of_decide_eq_true h2⟩
/-- at an instant, what comes and what goes -/
theorem chg_adds {a b : List FactP} {t : Int} (ha : RiseF a) (hb : RiseF b) (x : Tri) (τ : Int) : (∃ d ∈ chgL a b t, triD d = x ∧ d.add = true ∧ Names d τ) ↔ Inn (spansOf b x) τ ∧ ¬ Inn (spansOf a x) τ := by
  rw [← (minusL_spec (spansOf b x) (spansOf a x)).2 τ]
  constructor
  · rintro ⟨d, hd, rfl, had, hn⟩
    obtain ⟨_, _, ⟨_, h⟩ | ⟨h, _⟩⟩ := chg_mem ha hb hd
    · exact ⟨spD d, h, hn⟩
    · rw [had] at h; cases h
  · rintro hi
    have hx := ((minusL_spec (spansOf b x) (spansOf a x)).2 τ).1 hi
    obtain ⟨s, hs, h1, h2⟩ := hi
    exact ⟨mkD x t true s, (mem_chg ha hb (.inr (spans_there hx.1))).1 hs, rfl, rfl, h1, h2⟩
theorem chg_cuts {a b : List FactP} {t : Int} (ha : RiseF a) (hb : RiseF b) (x : Tri) (τ : Int) : (∃ d ∈ chgL a b t, triD d = x ∧ d.add = false ∧ Names d τ) ↔ Inn (spansOf a x) τ ∧ ¬ Inn (spansOf b x) τ := by
  rw [← (minusL_spec (spansOf a x) (spansOf b x)).2 τ]
  constructor
  · rintro ⟨d, hd, rfl, had, hn⟩
    obtain ⟨_, _, ⟨h, _⟩ | ⟨_, h⟩⟩ := chg_mem ha hb hd
    · rw [had] at h; cases h
    · exact ⟨spD d, h, hn⟩
  · rintro hi
    have hx := ((minusL_spec (spansOf a x) (spansOf b x)).2 τ).1 hi
    obtain ⟨s, hs, h1, h2⟩ := hi
    exact ⟨mkD x t false s, (mem_chg ha hb (.inl (spans_there hx.1))).2 hs, rfl, rfl, h1, h2⟩
theorem tri_may {f : FactP} (h : mayF f = true) {d : Dat} (e : triF f = triD d) (h1 : 1 ≤ d.t) (h2 : d.t ≤ 1099511627776) (h3 : d.fr < d.til) : mayD d = true := by
  unfold mayF mayD datF at h
  unfold mayD
  simp only [Bool.and_eq_true] at h ⊢
  unfold triF triD at e
  simp only [Prod.mk.injEq] at e
  obtain ⟨e1, e2, e3, e4, e5⟩ := e
  rw [e1, e2, e3, e4, e5] at h
  exact ⟨⟨h.1.1.1.1, decide_eq_true ⟨h1, h2⟩⟩, decide_eq_true h3⟩
theorem chg_may {a b : List FactP} {t : Int} (ha : mayFs a = true) (hb : mayFs b = true) (h1 : 1 ≤ t) (h2 : t ≤ 1099511627776) {d : Dat} (h : d ∈ chgL a b t) : mayD d = true := by
  obtain ⟨ma, ra⟩ := of_decide_eq_true ha
  obtain ⟨mb, rb⟩ := of_decide_eq_true hb
  obtain ⟨rfl, hf, hs⟩ := chg_mem ra rb h
  have hlt : d.fr < d.til := by
    rcases hs with ⟨_, hs⟩ | ⟨_, hs⟩
    · exact (minusL_spec _ _).1.2 _ hs
    · exact (minusL_spec _ _).1.2 _ hs
  rcases hf with ⟨f, hf, e⟩ | ⟨f, hf, e⟩
  · exact tri_may (ma f hf) e h1 h2 hlt
  · exact tri_may (mb f hf) e h1 h2 hlt
theorem spans_last' {l : List Dat} {fs : List FactP} (hg : Goes (sortsD 1 l)) (h : FoldsTo (runsL triD (sortsD 1 l)) fs) (hm : notMay l = false) (x : Tri) (t : Int) :
    Inn (spansOf fs x) t ↔ ∃ z ∈ l, triD z = x ∧ z.add = true ∧ Names z t ∧ ∀ y ∈ l, triD y = x → Names y t → y.add = false → y.t < z.t := by
  by_cases hx : ∃ d ∈ l, triD d = x
  · obtain ⟨d, hd, rfl⟩ := hx
    exact spans_last hg h hm hd t
  · constructor
    · intro hi
      obtain ⟨f, hf, e⟩ := spans_there hi
      obtain ⟨ls, h1, h2, rfl⟩ := h
      obtain ⟨i, d, r, q, g1, _, _, rfl⟩ := mem_factsOf _ _ f hf
      exact absurd ⟨d, ((sorts_ups l).2 d).1 (run_in_mem triD (List.mem_of_getElem? g1) (by simp)), e⟩ hx
    · rintro ⟨z, hz, e, _⟩
      exact absurd ⟨z, hz, e⟩ hx
theorem facts_ext {a b : List FactP} (ha : mayFs a = true) (hb : mayFs b = true) (h : ∀ x t, Inn (spansOf a x) t ↔ Inn (spansOf b x) t) : a = b := by
  obtain ⟨ma, ra⟩ := of_decide_eq_true ha
  obtain ⟨mb, rb⟩ := of_decide_eq_true hb
  have good : ∀ f : FactP, mayF f = true → SetL f.l ∧ f.l ≠ [] := fun f hf => by
    unfold mayF at hf
    simp only [Bool.and_eq_true] at hf
    exact ⟨of_decide_eq_true hf.2, List.length_pos_iff.1 (of_decide_eq_true hf.1.2)⟩
  have has : ∀ (l : List FactP), (∀ f ∈ l, mayF f = true) → RiseF l → ∀ x, x ∈ l.map triF ↔ ∃ t, Inn (spansOf l x) t := fun l hl hr x => by
    constructor
    · intro hx
      obtain ⟨f, hf, rfl⟩ := List.mem_map.1 hx
      obtain ⟨g1, g2⟩ := good f (hl f hf)
      rw [spansOf_mem hr hf]
      cases hfl : f.l with
      | nil => exact absurd hfl g2
      | cons s r => exact ⟨s.1, (set_start (s := s) (by rw [← hfl]; exact g1) (by simp)).1⟩
    · rintro ⟨t, hi⟩
      obtain ⟨f, hf, e⟩ := spans_there hi
      exact List.mem_map.2 ⟨f, hf, e⟩
  have hmap : a.map triF = b.map triF := by
    refine ups_uniq ordTr_is _ _ ?_ ?_ fun x => ?_
    · unfold Ups; exact List.pairwise_map.2 ra
    · unfold Ups; exact List.pairwise_map.2 rb
    · rw [has a ma ra, has b mb rb]
      exact exists_congr fun t => h x t
  have hlen : a.length = b.length := by have := congrArg List.length hmap; simpa using this
  refine List.ext_getElem hlen fun i h1 h2 => ?_
  have e : triF a[i] = triF b[i] := by
    have := List.getElem_of_eq hmap (i := i) (by simpa using h1)
    simpa using this
  have k1 := spansOf_mem ra (List.getElem_mem h1)
  have k2 := spansOf_mem rb (List.getElem_mem h2)
  have el : a[i].l = b[i].l := by
    refine set_ext (good _ (ma _ (List.getElem_mem h1))).1 (good _ (mb _ (List.getElem_mem h2))).1 fun t => ?_
    rw [← k1, ← k2, e]
    exact h _ t
  unfold triF at e
  simp only [Prod.mk.injEq] at e
  generalize a[i] = f at e el
  generalize b[i] = g at e el
  obtain ⟨f1, f2, f3, f4, f5, f6⟩ := f
  obtain ⟨g1, g2, g3, g4, g5, g6⟩ := g
  simp only at e el
  obtain ⟨rfl, rfl, rfl, rfl, rfl⟩ := e
  subst el
  rfl
/-- THE STAGE'S THEOREM, in plain words -/
theorem change_folds {l : List Dat} {old now : List FactP} {t : Int} (hm : notMay l = false) (hg : Goes (sortsD 1 l)) (hf : FoldsTo (runsL triD (sortsD 1 l)) old) (hn : mayFs now = true) (h1 : 1 ≤ t) (h2 : t ≤ 1099511627776) (ht : ∀ d ∈ l, d.t < t) :
    notMay (l ++ chgL old now t) = false ∧ Goes (sortsD 1 (l ++ chgL old now t)) ∧ ∀ fs, FoldsTo (runsL triD (sortsD 1 (l ++ chgL old now t))) fs → fs = now := by
  have ho := foldsTo_may hm hf
  have ra := (of_decide_eq_true ho).2
  have rb := (of_decide_eq_true hn).2
  have m1 : notMay (l ++ chgL old now t) = false := by
    unfold notMay at hm ⊢
    rw [List.any_append, hm, Bool.false_or, List.any_eq_false]
    exact fun d hd => by simp [chg_may ho hn h1 h2 hd]
  have both : ∀ z, z ∈ l ++ chgL old now t → z.t ≤ t ∧ (z.t = t → z ∈ chgL old now t) ∧ (z.t ≠ t → z ∈ l) := fun z hz => by
    rcases List.mem_append.1 hz with hz | hz
    · have := ht z hz
      exact ⟨by omega, fun e => by omega, fun _ => hz⟩
    · have := (chg_mem ra rb hz).1
      exact ⟨by omega, fun _ => hz, fun e => absurd this e⟩
  have m2 : Goes (sortsD 1 (l ++ chgL old now t)) := fun run hr once hoo => by
    rintro ⟨τ, hi1, hi2⟩
    obtain ⟨x, hx, hxa, hxn⟩ := inn_adds.1 hi1
    obtain ⟨y, hy, hya, hyn⟩ := inn_cuts.1 hi2
    have hxr := run_in_mem (fun d : Dat => d.t) hoo hx
    have hyr := run_in_mem (fun d : Dat => d.t) hoo hy
    have et : x.t = y.t := run_all (fun d : Dat => d.t) hoo hx hy
    have e : triD x = triD y := run_all triD hr hxr hyr
    have hxb := both x (((sorts_ups _).2 x).1 (run_in_mem triD hr hxr))
    have hyb := both y (((sorts_ups _).2 y).1 (run_in_mem triD hr hyr))
    by_cases he : x.t = t
    · have k1 := (chg_adds ra rb (triD x) τ).1 ⟨x, hxb.2.1 he, rfl, hxa, hxn⟩
      have k2 := (chg_cuts ra rb (triD x) τ).1 ⟨y, hyb.2.1 (by omega), e.symm, hya, hyn⟩
      exact k1.2 k2.1
    · have := goes_apart hg (hxb.2.2 he) (hyb.2.2 (by omega)) e et hxn hyn
      rw [hxa, hya] at this
      cases this
  refine ⟨m1, m2, fun fs hfs => facts_ext (foldsTo_may m1 hfs) hn fun x τ => ?_⟩
  rw [spans_last' m2 hfs m1 x τ]
  have hO := spans_last' hg hf hm x τ
  have hA := chg_adds (t := t) ra rb x τ
  have hC := chg_cuts (t := t) ra rb x τ
  constructor
  · rintro ⟨z, hz, e, hza, hzn, hzy⟩
    rcases List.mem_append.1 hz with hzl | hzc
    · have hold : Inn (spansOf old x) τ := hO.2 ⟨z, hzl, e, hza, hzn, fun y hy => hzy y (List.mem_append_left _ hy)⟩
      refine Classical.byContradiction fun hnn => ?_
      obtain ⟨y, hy, ye, ya, yn⟩ := hC.2 ⟨hold, hnn⟩
      have k1 := hzy y (List.mem_append_right _ hy) ye yn ya
      have k2 := (chg_mem ra rb hy).1
      have k3 := ht z hzl
      omega
    · exact (hA.1 ⟨z, hzc, e, hza, hzn⟩).1
  · intro hN
    by_cases hold : Inn (spansOf old x) τ
    · obtain ⟨z, hzl, e, hza, hzn, hzy⟩ := hO.1 hold
      refine ⟨z, List.mem_append_left _ hzl, e, hza, hzn, fun y hy ye yn ya => ?_⟩
      rcases List.mem_append.1 hy with hy | hy
      · exact hzy y hy ye yn ya
      · exact absurd hN (hC.1 ⟨y, hy, ye, ya, yn⟩).2
    · obtain ⟨z, hzc, e, hza, hzn⟩ := hA.2 ⟨hN, hold⟩
      refine ⟨z, List.mem_append_right _ hzc, e, hza, hzn, fun y hy ye yn ya => ?_⟩
      rcases List.mem_append.1 hy with hy | hy
      · have := ht y hy
        have := (chg_mem ra rb hzc).1
        omega
      · exact absurd (hC.1 ⟨y, hy, ye, ya, yn⟩).1 hold
/-- from facts to themselves there are no changes -/
theorem chg_same {a : List FactP} (ha : RiseF a) (t : Int) : chgL a a t = [] := by
  refine List.eq_nil_iff_forall_not_mem.2 fun d hd => ?_
  obtain ⟨_, _, h⟩ := chg_mem ha ha hd
  rcases h with ⟨_, h⟩ | ⟨_, h⟩
  · have := ((minusL_spec (spansOf a (triD d)) (spansOf a (triD d))).2 _).1 (set_start (minusL_spec _ _).1 h).1
    exact this.2 this.1
  · have := ((minusL_spec (spansOf a (triD d)) (spansOf a (triD d))).2 _).1 (set_start (minusL_spec _ _).1 h).1
    exact this.2 this.1
end Go.Proofs.YthhkabbgghepbaaGreat

/-
  CONTRACTS: isMark, facts.Datoms, facts.Of (with no instant asked).
-/
namespace Go.Proofs.YthhkabbgghepbaaGreat
open Go.RowKit Go.Shelf

def markB (n : Int) : Bool := decide (0 ≤ n ∧ n ≤ 1099511627776)
set_option maxHeartbeats 400000 in
theorem isMark_any (n : Int) (w : World) : Calls Tryz.prog 42 #[.int .i64 n] w fun e w' => e = .returned (.bool (markB n)) ∧ w = w' := by
  by_cases h0 : 0 ≤ n
  · by_cases h1 : n ≤ 1099511627776
    · have e : Hid (markB n = true) := by show _ = _; unfold markB; simp [h0, h1]
      go_enter Tryz.func42, Tryz.ntmps42
      go_wp2
      go_ret
      exact ⟨by rw [e.out]; rfl, rfl⟩
    · have e : Hid (markB n = false) := by show _ = _; unfold markB; simp [h1]
      go_enter Tryz.func42, Tryz.ntmps42
      go_wp2
      go_ret
      exact ⟨by rw [e.out]; rfl, rfl⟩
  · have e : Hid (markB n = false) := by show _ = _; unfold markB; simp; omega
    have h0' : decide (0 ≤ n) = false := decide_eq_false h0
    go_enter Tryz.func42, Tryz.ntmps42
    go_wp2
    go_ret
    exact ⟨by rw [e.out]; rfl, rfl⟩
/-- a view has a datom -/
def seesB (a s : Int) (d : Dat) : Bool := decide (s < d.t) && (decide (a = 0) || decide (d.t ≤ a))
/-- a view in a box -/
def VwAt (W : World) (b : Nat) (a s v : Int) (at_ hist : Bool) : Prop := W.heap[b]? = some (.cells #[.int .i64 a, .int .i64 s, .int .i64 v, .bool at_, .bool hist] 24 (0, 0))
theorem VwAt.cell {W : World} {b : Nat} {a s v : Int} {at_ hist : Bool} (h : VwAt W b a s v at_ hist) (j : Nat) : W.cell? ⟨b, j, none⟩ = (#[Value.int .i64 a, .int .i64 s, .int .i64 v, .bool at_, .bool hist])[j]? := by unfold VwAt at h; simp [World.cell?, h]
theorem VwAt.k0 {W : World} {b : Nat} {a s v : Int} {at_ hist : Bool} (h : VwAt W b a s v at_ hist) : W.cell? ⟨b, 0, none⟩ = some (.int .i64 a) := h.cell 0
theorem VwAt.k1 {W : World} {b : Nat} {a s v : Int} {at_ hist : Bool} (h : VwAt W b a s v at_ hist) : W.cell? ⟨b, 1, none⟩ = some (.int .i64 s) := h.cell 1
theorem VwAt.k2 {W : World} {b : Nat} {a s v : Int} {at_ hist : Bool} (h : VwAt W b a s v at_ hist) : W.cell? ⟨b, 2, none⟩ = some (.int .i64 v) := h.cell 2
theorem VwAt.k3 {W : World} {b : Nat} {a s v : Int} {at_ hist : Bool} (h : VwAt W b a s v at_ hist) : W.cell? ⟨b, 3, none⟩ = some (.bool at_) := h.cell 3
theorem VwAt.k4 {W : World} {b : Nat} {a s v : Int} {at_ hist : Bool} (h : VwAt W b a s v at_ hist) : W.cell? ⟨b, 4, none⟩ = some (.bool hist) := h.cell 4
theorem VwAt.lt {W : World} {b : Nat} {a s v : Int} {at_ hist : Bool} (h : VwAt W b a s v at_ hist) : b < W.heap.size := (Array.getElem?_eq_some_iff.1 h).1
theorem VwAt.next {W W' : World} {b B : Nat} {a s v : Int} {at_ hist : Bool} (h : VwAt W b a s v at_ hist) (hb : Below B W W') (hB : b < B) : VwAt W' b a s v at_ hist := (hb.block b hB).trans h
/-- What facts.Datoms answers. -/
def DtsEnd (w : World) (a s : Int) (l : List Dat) (e : Ending) (w' : World) : Prop :=
  (∃ A c n ec, e = .returned (.tuple #[.slice A n c, .int .i64 ec]) ∧ ((markB a = true ∧ markB s = true ∧ ec = 0 ∧ n = (sortsD 1 (l.filter (seesB a s))).length ∧ SlD w' w'.heap.size A (sortsD 1 (l.filter (seesB a s)))) ∨ ((markB a && markB s) = false ∧ ec = 2 ∧ A = none ∧ n = 0 ∧ c = 0))) ∧ Below w.heap.size w w'
set_option maxRecDepth 100000 in
set_option maxHeartbeats 4000000 in
theorem datomsF_any (a s v : Int) (at_ hist : Bool) (A : Option Addr) (c : Nat) (l : List Dat) (w : World) (hs : SlD w w.heap.size A l) (hl : l.length ≤ 1000000) :
    Calls Tryz.prog 12 #[.slice A l.length c, .agg #[.int .i64 a, .int .i64 s, .int .i64 v, .bool at_, .bool hist]] w (DtsEnd w a s l) := by
  obtain ⟨i0, hi, hz0, hz1, hz2⟩ := info_parts infoD
  have hmx : 2000000000000 ≤ maxLen := by decide
  have HS := Lib.hid hs
  clear hs
  obtain ⟨w0, hw0⟩ : ∃ w0, w.alloc (.cells #[.int .i64 a, .int .i64 s, .int .i64 v, .bool at_, .bool hist] 24) = w0 := ⟨_, rfl⟩
  have HZ0 : Hid (w0.heap.size = w.heap.size + 1) := by rw [← hw0]; show _ = _; simp
  have HB0 : Hid (Below w.heap.size w w0) := by rw [← hw0]; exact (Below.refl _ _).alloc (Nat.le_refl _) _
  have HVW : Hid (VwAt w0 w.heap.size a s v at_ hist) := by rw [← hw0]; exact heap_alloc_new w _
  have k0 := HVW.out.k0
  have k1 := HVW.out.k1
  go_enter Tryz.func12, Tryz.ntmps12
  go_upto_region 1 with (fail)
  try rw [hw0]
  clear hw0
  go_wp2_with fail
  refine (isMark_any a _).mono ?_
  rintro e w' ⟨rfl, rfl⟩
  obtain ⟨ma, hma⟩ : ∃ m, markB a = m := ⟨_, rfl⟩
  rw [hma]
  have HMA := Lib.hid hma
  clear hma
  cases ma
  · go_wp2
    go_ret2
    exact ⟨⟨_, _, _, _, rfl, .inr ⟨by rw [HMA.out]; rfl, rfl, rfl, rfl, rfl⟩⟩, HB0.out⟩
  go_wp2_with fail
  refine (isMark_any s _).mono ?_
  rintro e w' ⟨rfl, rfl⟩
  obtain ⟨ms, hms⟩ : ∃ m, markB s = m := ⟨_, rfl⟩
  rw [hms]
  have HMS := Lib.hid hms
  clear hms
  cases ms
  · go_wp2
    go_ret2
    exact ⟨⟨_, _, _, _, rfl, .inr ⟨by rw [HMS.out]; simp, rfl, rfl, rfl, rfl⟩⟩, HB0.out⟩
  clear k0 k1
  go_wp2
  go_loopg [6, 8, 21] l.length (fun g x6 _ x21 wr => ∃ j : Nat, OwnD wr (w.heap.size + 1) x6 ((l.take j).filter (seesB a s)) ∧ x21 = .int .i64 j ∧ j + g = l.length ∧ Hid (Below (w.heap.size + 1) w0 wr) ∧ w.heap.size + 1 ≤ wr.heap.size)
  case atStart => exact ⟨0, World.ownsRow_nil _ _ _ _, rfl, by omega, Below.refl _ _, by have := HZ0.out; omega⟩
  case round =>
    obtain ⟨j, ho, rfl, hj, HB, hsz⟩ := hrel
    have hfl : ((l.take j).filter (seesB a s)).length ≤ j := Nat.le_trans (List.length_filter_le _ _) (List.length_take_le _ _)
    cases gk with
    | zero =>
      obtain rfl : j = l.length := by omega
      have hji : ¬ ((l.length : Int) < (l.length : Int)) := by omega
      rw [List.take_length] at ho hfl
      have HBW : Hid (Below w.heap.size w wr) := HB0.out.trans (HB.out.mono (Nat.le_succ _))
      obtain ⟨A1, c1, rfl, hs1, _, _, _, _⟩ := ho.form
      have HSD := Lib.hid (sortedD_any 1 A1 c1 (l.filter (seesB a s)) wr hs1 (by omega))
      clear ho hs1
      go_wp2_with fail
      refine HSD.out.mono ?_
      rintro e w2 ⟨A2, c2, rfl, h2, hb2⟩
      have HS2 := Lib.hid h2
      have HB2 := Lib.hid (HBW.out.trans (hb2.mono HBW.out.size))
      clear h2 hb2
      go_wp2
      go_ret2
      exact ⟨⟨_, _, _, _, rfl, .inl ⟨HMA.out, HMS.out, rfl, rfl, HS2.out⟩⟩, HB2.out⟩
    | succ g =>
      have hji : (j : Int) < (l.length : Int) := by omega
      have hjn : j < l.length := by omega
      have HBW : Hid (Below w.heap.size w wr) := HB0.out.trans (HB.out.mono (Nat.le_succ _))
      obtain ⟨b, q, rfl, hbl, hp⟩ := (HS.out.next HBW.out (Nat.le_refl _)).at_ hjn
      have hft := filter_take (seesB a s) hjn
      obtain ⟨x, hpe⟩ : ∃ p, l[j] = p := ⟨_, rfl⟩
      rw [hpe] at hp hft
      obtain ⟨L, hL⟩ : ∃ L, (l.take j).filter (seesB a s) = L := ⟨_, rfl⟩
      rw [hL] at ho hfl hft
      obtain ⟨A1, c1, rfl, _, _, _, _, _⟩ := ho.form
      have HO := Lib.hid ho
      have HFT := Lib.hid hft
      have m0 := hp.c0
      have m1 := hp.c1
      have m2 := hp.c2
      have m3 := hp.c3
      have m4 := hp.c4
      have m5 := hp.c5
      have m6 := hp.c6
      have m7 := hp.c7
      have m8 := hp.c8
      have HD : Hid (DatAt (wr.alloc (.cells #[.int .i64 x.e, .int .i64 x.a, .int .i64 x.k, .int .i64 x.m, .string x.s, .int .i64 x.t, .bool x.add, .int .i64 x.fr, .int .i64 x.til] 46)) wr.heap.size x) := datAt_new wr x
      have HBZ : Hid (Below wr.heap.size wr (wr.alloc (.cells #[.int .i64 x.e, .int .i64 x.a, .int .i64 x.k, .int .i64 x.m, .string x.s, .int .i64 x.t, .bool x.add, .int .i64 x.fr, .int .i64 x.til] 46))) := (Below.refl wr.heap.size wr).alloc (Nat.le_refl _) _
      have HVR := Lib.hid (HVW.out.next HB.out (Nat.lt_succ_self _))
      clear ho hft hL hp hpe
      go_upto_region 7 with (fail)
      obtain ⟨wz, hwz⟩ : ∃ wz, (wr.alloc (.cells #[.int .i64 x.e, .int .i64 x.a, .int .i64 x.k, .int .i64 x.m, .string x.s, .int .i64 x.t, .bool x.add, .int .i64 x.fr, .int .i64 x.til] 46)) = wz := ⟨_, rfl⟩
      rw [hwz] at HD HBZ ⊢
      clear hwz m0 m1 m2 m3 m4 m5 m6 m7 m8
      have hvz := HVR.out.next HBZ.out HVR.out.lt
      have k0 := hvz.k0
      have k1 := hvz.k1
      have HO1 := Lib.hid (HO.out.next HBZ.out)
      have HB1 := Lib.hid (HB.out.trans (HBZ.out.mono hsz))
      have HS2 : Hid (w.heap.size + 1 ≤ wz.heap.size) := Nat.le_trans hsz HBZ.out.size
      have z0 := HD.out.c0
      have z1 := HD.out.c1
      have z2 := HD.out.c2
      have z3 := HD.out.c3
      have z4 := HD.out.c4
      have z5 := HD.out.c5
      have z6 := HD.out.c6
      have z7 := HD.out.c7
      have z8 := HD.out.c8
      have HOA : Hid (OwnD (wz.alloc (.cells #[.int .i64 x.e, .int .i64 x.a, .int .i64 x.k, .int .i64 x.m, .string x.s, .int .i64 x.t, .bool x.add, .int .i64 x.fr, .int .i64 x.til] 46)) (w.heap.size + 1) (.slice A1 L.length c1) L) := World.ownsRow.alloc HO1.out _
      have HBA := Lib.hid (HB1.out.alloc HS2.out (.cells #[.int .i64 x.e, .int .i64 x.a, .int .i64 x.k, .int .i64 x.m, .string x.s, .int .i64 x.t, .bool x.add, .int .i64 x.fr, .int .i64 x.til] 46))
      have HLC := Lib.hid (litD wz x)
      have hbs : (w.heap.size + 1 ≤ (wz.alloc (.cells #[.int .i64 x.e, .int .i64 x.a, .int .i64 x.k, .int .i64 x.m, .string x.s, .int .i64 x.t, .bool x.add, .int .i64 x.fr, .int .i64 x.til] 46)).heap.size) := by simp; have := HS2.out; omega
      have HBS := Lib.hid hbs
      clear hbs hvz
      by_cases g1 : s < x.t
      · have e1 : decide (s < x.t) = true := decide_eq_true g1
        by_cases g2 : a = 0
        · have HF : Hid ((l.take (j + 1)).filter (seesB a s) = L ++ [x]) := by show _ = _; rw [HFT.out]; unfold seesB; simp [g1, g2]
          subst g2
          go_wp2_with (at_builtin; refine wpList_append_any rfl _ _ 22 rfl (w.heap.size + 1) 46 i0 (.agg #[.int .i64 0, .int .i64 0, .int .i64 0, .int .i64 0, .string ⟨#[]⟩, .int .i64 0, .bool false, .int .i64 0, .int .i64 0]) 9 80 Tryz.underlying22 hi hz0 hz1 hz2 rfl (by decide) _ _ _ rfl HOA.out (some ⟨wz.heap.size, 0, none⟩) 1 1 ([x].flatMap cellsD) rfl rfl (fun h => by cases h) HLC.out (cellsD_all _) (by omega) (by omega) HBS.out ?_; intro v1 w3 hown hgrow; have HV1 : Hid (OwnD w3 (w.heap.size + 1) v1 (L ++ [x])) := ownD_of hown; have HB3 := Lib.hid (HBA.out.trans (below_ownD HOA.out hgrow HBS.out)); have HS3 : Hid (w.heap.size + 1 ≤ w3.heap.size) := (by have := HB3.out.size; have := HZ0.out; show _ ≤ _; omega); clear hown hgrow z0 z1 z2 z3 z4 z5 z6 z7 z8 k0 k1)
          go_roundg g
          case measure => omega
          case rel => exact ⟨j + 1, by rw [HF.out]; exact HV1.out, by go_num, by omega, HB3.out, HS3.out⟩
        · have e2 : (a == 0) = false := by rw [beq_eq_false_iff_ne]; exact g2
          by_cases g3 : x.t ≤ a
          · have e3 : decide (x.t ≤ a) = true := decide_eq_true g3
            have HF : Hid ((l.take (j + 1)).filter (seesB a s) = L ++ [x]) := by show _ = _; rw [HFT.out]; unfold seesB; simp [g1, g3]
            clear g1 g2 g3
            go_wp2_with (at_builtin; refine wpList_append_any rfl _ _ 22 rfl (w.heap.size + 1) 46 i0 (.agg #[.int .i64 0, .int .i64 0, .int .i64 0, .int .i64 0, .string ⟨#[]⟩, .int .i64 0, .bool false, .int .i64 0, .int .i64 0]) 9 80 Tryz.underlying22 hi hz0 hz1 hz2 rfl (by decide) _ _ _ rfl HOA.out (some ⟨wz.heap.size, 0, none⟩) 1 1 ([x].flatMap cellsD) rfl rfl (fun h => by cases h) HLC.out (cellsD_all _) (by omega) (by omega) HBS.out ?_; intro v1 w3 hown hgrow; have HV1 : Hid (OwnD w3 (w.heap.size + 1) v1 (L ++ [x])) := ownD_of hown; have HB3 := Lib.hid (HBA.out.trans (below_ownD HOA.out hgrow HBS.out)); have HS3 : Hid (w.heap.size + 1 ≤ w3.heap.size) := (by have := HB3.out.size; have := HZ0.out; show _ ≤ _; omega); clear hown hgrow z0 z1 z2 z3 z4 z5 z6 z7 z8 k0 k1)
            go_roundg g
            case measure => omega
            case rel => exact ⟨j + 1, by rw [HF.out]; exact HV1.out, by go_num, by omega, HB3.out, HS3.out⟩
          · have e3 : decide (x.t ≤ a) = false := decide_eq_false g3
            have HF : Hid ((l.take (j + 1)).filter (seesB a s) = L) := by show _ = _; rw [HFT.out]; unfold seesB; simp [g2, g3]
            clear g1 g2 g3
            go_wp2
            go_roundg g
            case measure => omega
            case rel => exact ⟨j + 1, by rw [HF.out]; exact HO1.out, by go_num, by omega, HB1.out, HS2.out⟩
      · have e1 : decide (s < x.t) = false := decide_eq_false g1
        have HF : Hid ((l.take (j + 1)).filter (seesB a s) = L) := by show _ = _; rw [HFT.out]; unfold seesB; simp [g1]
        clear g1
        go_wp2
        go_roundg g
        case measure => omega
        case rel => exact ⟨j + 1, by rw [HF.out]; exact HO1.out, by go_num, by omega, HB1.out, HS2.out⟩

/-- what Of answers of a view that asks no instant -/
def OfU (l : List Dat) (a s : Int) (W : World) (v : Value) (ec : Int) : Prop := (markB a = true ∧ markB s = true ∧ FoldU (l.filter (seesB a s)) W v ec) ∨ ((markB a && markB s) = false ∧ ec = 2 ∧ v = .slice none 0 0)
set_option maxRecDepth 100000 in
set_option maxHeartbeats 2000000 in
theorem of_any (a s v : Int) (A : Option Addr) (c : Nat) (l : List Dat) (w : World) (hs : SlD w w.heap.size A l) (hl : l.length ≤ 5000) (hz : ∀ d ∈ l, d.s.size ≤ maxLen) (hk : ∀ d ∈ l, SpOk (spD d)) (hfew : (l.filter (seesB a s)).length ≤ 3000 ∨ notMay (l.filter (seesB a s)) = true) :
    Calls Tryz.prog 14 #[.slice A l.length c, .agg #[.int .i64 a, .int .i64 s, .int .i64 v, .bool false, .bool false]] w fun e w' => ∃ u ec, e = .returned (.tuple #[u, .int .i64 ec]) ∧ OfU l a s w' u ec ∧ Below w.heap.size w w' := by
  obtain ⟨w0, hw0⟩ : ∃ w0, w.alloc (.cells #[.int .i64 a, .int .i64 s, .int .i64 v, .bool false, .bool false] 24) = w0 := ⟨_, rfl⟩
  have hb0 : Below w.heap.size w w0 := by rw [← hw0]; exact (Below.refl _ _).alloc (Nat.le_refl _) _
  have HB0 := Lib.hid hb0
  have HVW : Hid (VwAt w0 w.heap.size a s v false false) := by rw [← hw0]; exact heap_alloc_new w _
  have HDT := Lib.hid (datomsF_any a s v false false A c l w0 ((hs.next hb0 (Nat.le_refl _)).more hb0.size) (by omega))
  have HZ := Lib.hid hz
  have HK := Lib.hid hk
  have HW := Lib.hid hfew
  have k0 := HVW.out.k0
  have k1 := HVW.out.k1
  have k2 := HVW.out.k2
  have k3 := HVW.out.k3
  have k4 := HVW.out.k4
  clear hs hz hk hfew hb0
  go_enter Tryz.func14, Tryz.ntmps14
  go_upto_region 1 with (fail)
  try rw [hw0]
  clear hw0
  go_wp2_with fail
  refine HDT.out.mono ?_
  rintro e w1 ⟨⟨A1, c1, n1, ec1, rfl, ⟨hma, hms, rfl, rfl, h1⟩ | ⟨hno, rfl, rfl, rfl, rfl⟩⟩, hb1⟩
  · have HM := Lib.hid (And.intro hma hms)
    have HB1 := Lib.hid (HB0.out.trans (hb1.mono HB0.out.size))
    have hvz := HVW.out.next hb1 HVW.out.lt
    have HBX := Lib.hid hb1.size
    have HS1 := Lib.hid h1
    obtain ⟨S, hS⟩ : ∃ S, sortsD 1 (l.filter (seesB a s)) = S := ⟨_, rfl⟩
    have hmem : ∀ x, x ∈ S ↔ x ∈ l.filter (seesB a s) := fun x => by rw [← hS]; exact (sorts_ups _).2 x
    have hml : ∀ x ∈ S, x ∈ l := fun x hx => (List.mem_filter.1 ((hmem x).1 hx)).1
    have hfs := sorts_few (l.filter (seesB a s))
    have hfl := List.length_filter_le (seesB a s) l
    have hSS : (sortsD 1 S).length ≤ S.length := sorts_few S
    have HFU := Lib.hid (fold_u A1 c1 S w1 (by rw [← hS]; exact h1) (by rw [← hS]; omega) (fun d hd => HZ.out d (hml d hd)) (fun d hd => HK.out d (hml d hd)) (fun h => by
      rw [hS] at hfs
      rcases HW.out with h2 | h2
      · exact ⟨by omega, by omega⟩
      · rw [same_may hmem, h2] at h; cases h))
    have HME := Lib.hid hmem
    rw [hS] at HS1
    rw [hS]
    have k3' := hvz.k3
    clear h1 hma hms hb1 hvz hS hmem hml hfs hfl hSS k0 k1 k2 k3 k4
    go_wp2_with fail
    refine HFU.out.mono ?_
    rintro e w2 ⟨u, ec, rfl, hfu, hb2⟩
    have HB2 := Lib.hid (HB1.out.trans (hb2.mono HB1.out.size))
    have k3 := (hb2.cell (p := ⟨w.heap.size, 3, none⟩) (Nat.lt_of_lt_of_le HVW.out.lt (Nat.le_trans (Nat.le_refl _) (by have h1 := HVW.out.lt; have h2 := HB0.out.size; have h3 := HBX.out; omega)))).trans k3'
    have HU : Hid (FoldU (l.filter (seesB a s)) w2 u ec) := by
      have := hfu
      unfold FoldU at this ⊢
      rwa [same_may HME.out, same_sorts HME.out] at this
    clear hb2 k3' HFU
    rcases hfu with ⟨rfl, rfl, _⟩ | ⟨rfl, _, _, fs, _, ⟨A5, c5, rfl, _⟩, _⟩
    · go_wp2
      go_ret2
      exact ⟨_, _, rfl, .inl ⟨HM.out.1, HM.out.2, HU.out⟩, HB2.out⟩
    · go_wp2
      go_ret2
      exact ⟨_, _, rfl, .inl ⟨HM.out.1, HM.out.2, HU.out⟩, HB2.out⟩
  · have HN := Lib.hid hno
    have HB1 := Lib.hid (HB0.out.trans (hb1.mono HB0.out.size))
    clear hb1 hno
    go_wp2
    go_ret2
    exact ⟨_, _, rfl, .inr ⟨HN.out, rfl, rfl⟩, HB1.out⟩
end Go.Proofs.YthhkabbgghepbaaGreat

/-
  PLAIN FACTS: what the chapter's datoms are folded to, in its views; the changes to their facts.
-/
namespace Go.Proofs.YthhkabbgghepbaaGreat

def F5 : FactP := ⟨5, 10, 1, 1, ⟨#[]⟩, [(0, 4), (6, 10)]⟩
def F10 : FactP := ⟨5, 10, 1, 1, ⟨#[]⟩, [(0, 10)]⟩
def F1 : FactP := ⟨1, 1, 1, 1, ⟨#[]⟩, []⟩
def few3 : Dat := ⟨5, 10, 1, 1, ⟨#[]⟩, 2, true, 5, 7⟩
def ch1 : Dat := ⟨5, 10, 1, 1, ⟨#[]⟩, 3, true, 0, 4⟩
def ch2 : Dat := ⟨5, 10, 1, 1, ⟨#[]⟩, 3, true, 6, 10⟩
theorem sort_one (d : Dat) : sortsD 1 [d] = [d] := by
  refine ups_uniq (ordD_is (o := 1) rfl) _ _ (sorts_ups [d]).1 (by unfold Ups; exact List.pairwise_singleton _ _) fun x => (sorts_ups [d]).2 x
theorem runs_one (d : Dat) : runsL triD (sortsD 1 [d]) = [[d]] := by rw [sort_one, runsL_one]
theorem times_one (d : Dat) : timesL [d] = [[d]] := runsL_one _ _
theorem goes_one (d : Dat) : Goes (sortsD 1 [d]) := fun run hr once ho => by
  rw [runs_one, List.mem_singleton] at hr
  subst hr
  rw [times_one, List.mem_singleton] at ho
  subst ho
  rintro ⟨t, h1, h2⟩
  obtain ⟨x, hx, hxa, _⟩ := inn_adds.1 h1
  obtain ⟨y, hy, hya, _⟩ := inn_cuts.1 h2
  rw [List.mem_singleton.1 hx] at hxa
  rw [List.mem_singleton.1 hy] at hya
  rw [hxa] at hya
  cases hya
theorem few1_to {fs : List FactP} (h : FoldsTo (runsL triD (sortsD 1 [few1])) fs) : fs = [F10] := by
  rw [runs_one] at h
  have hh : HeldL [few1] [(0, 10)] := by
    refine ⟨⟨by simp, by simp⟩, fun t => ?_⟩
    rw [times_one]
    have h1 : addsL [few1] = [(0, 10)] := rfl
    have h2 : cutsL [few1] = [] := rfl
    simp only [List.map_cons, List.map_nil, turnR, h1, h2, inT, inn_cons, inn_nil, or_false, List.not_mem_nil, false_implies, implies_true, and_true]
  have h' := foldsTo_snoc foldsTo_nil hh
  exact foldsTo_one h h'
theorem few2_to {fs : List FactP} (h : FoldsTo (runsL triD (sortsD 1 [few2])) fs) : fs = [] := by
  rw [runs_one] at h
  have hh : HeldL [few2] [] := by
    refine ⟨setL_nil, fun t => ?_⟩
    rw [times_one]
    have h1 : addsL [few2] = [] := rfl
    have h2 : cutsL [few2] = [(4, 6)] := rfl
    simp only [List.map_cons, List.map_nil, turnR, h1, h2, inT, inn_nil, or_false, false_and]
  have h' := foldsTo_snoc foldsTo_nil hh
  exact foldsTo_one h h'
theorem few3_clash : ¬ Goes (sortsD 1 [few1, few2, few3]) := fun h => by
  have := goes_apart h (x := few2) (y := few3) (by simp) (by simp) rfl rfl (t := 5) ⟨by decide, by decide⟩ ⟨by decide, by decide⟩
  cases this
theorem minus_nil {a : List Sp} (h : SetL a) : minusL a [] = a := minusL_is h fun t => by simp [inn_nil]
theorem nil_minus (a : List Sp) : minusL [] a = [] := minusL_is setL_nil fun t => by simp [inn_nil]
theorem chg_few : chgL [] [F5] 3 = [ch1, ch2] := by
  have hs : SetL F5.l := ⟨by unfold F5; simp, by unfold F5; simp⟩
  have hne : ¬ (([] : List FactP) = [] ∧ [F5] = []) := fun h => by cases h.2
  rw [chgL_step hne]
  have e1 : leastT [] [F5] = triF F5 := rfl
  rw [e1]
  have e2 : takeS [F5] (triF F5) = F5.l := by unfold takeS; simp
  have e3 : takeR [F5] (triF F5) = [] := by unfold takeR; simp
  have e4 : takeS [] (triF F5) = [] := rfl
  have e5 : takeR [] (triF F5) = [] := rfl
  rw [e2, e3, e4, e5, chgL_nil, List.append_nil]
  unfold chgT
  simp only
  rw [minus_nil hs, nil_minus]
  rfl
theorem sees_a : [few1, few2].filter (seesB 1 0) = [few1] := by decide
theorem sees_b : [few1, few2].filter (seesB 0 1) = [few2] := by decide
theorem sees_c : [few1, few2].filter (seesB 0 0) = [few1, few2] := by decide
theorem may_few1 : notMay [few1] = false := by decide
theorem may_few2 : notMay [few2] = false := by decide
theorem may_few : notMay [few1, few2] = false := by decide
theorem few_ok {d : Dat} (h : d ∈ [few1, few2]) : SpOk (spD d) := by
  rcases List.mem_cons.1 h with rfl | h
  · exact ⟨⟨by decide, by decide⟩, by decide, by decide⟩
  · rw [List.mem_singleton.1 h]; exact ⟨⟨by decide, by decide⟩, by decide, by decide⟩
theorem few_sz {d : Dat} (h : d ∈ [few1, few2]) : d.s.size ≤ maxLen := by
  rcases List.mem_cons.1 h with rfl | h
  · decide
  · rw [List.mem_singleton.1 h]; decide
theorem f5_may : mayFs [F5] = true := by decide +kernel
theorem f1_no : mayFs [F1] = false := by decide +kernel
theorem f55_no : mayFs ([F5] ++ [F5]) = false := mayFs_no (i := 1) fun h => by
  have := (h F5 rfl).2 F5 (by decide) rfl
  exact tri_irr _ this
theorem f5_inn : innB F5.l 5 = false := decide_eq_false fun ⟨s, hs, h1, h2⟩ => by
  unfold F5 at hs
  simp only [List.mem_cons, List.not_mem_nil, or_false] at hs
  rcases hs with rfl | rfl
  · simp only at h2; omega
  · simp only at h1; omega
theorem f5_at : ([F5].filter fun f => innB f.l 5) = [] := by
  rw [List.filter_cons, f5_inn]
  rfl
end Go.Proofs.YthhkabbgghepbaaGreat

/-
  CONTRACT: Changes.
-/
namespace Go.Proofs.YthhkabbgghepbaaGreat
open Go.RowKit Go.Shelf

/-- What Changes answers. -/
def ChgEnd (w : World) (old now : List FactP) (t : Int) (e : Ending) (w' : World) : Prop :=
  (∃ v ec, e = .returned (.tuple #[v, .int .i64 ec]) ∧ ((mayFs old = true ∧ mayFs now = true ∧ txB t = true ∧ ec = 0 ∧ OwnD w' w.heap.size v (chgL old now t)) ∨ ((mayFs old && mayFs now) = false ∧ ec = 60 ∧ v = .slice none 0 0) ∨ (mayFs old = true ∧ mayFs now = true ∧ txB t = false ∧ ec = 2 ∧ v = .slice none 0 0))) ∧ Below w.heap.size w w'
set_option maxRecDepth 100000 in
set_option maxHeartbeats 4000000 in
theorem changes_any (t : Int) (A B : Option Addr) (c d : Nat) (old now : List FactP) (w : World) (ha : FVa w (.slice A old.length c) old) (hb : FVa w (.slice B now.length d) now) (hla : old.length ≤ 100000) (hlb : now.length ≤ 100000)
    (hza : ∀ f ∈ old, f.s.size ≤ maxLen ∧ f.l.length ≤ 100000) (hzb : ∀ f ∈ now, f.s.size ≤ maxLen ∧ f.l.length ≤ 100000) (hka : ∀ f ∈ old, ∀ q ∈ f.l, SpOk q) (hkb : ∀ f ∈ now, ∀ q ∈ f.l, SpOk q) (hs : sumS old + sumS now ≤ 5000) :
    Calls Tryz.prog 20 #[.slice A old.length c, .slice B now.length d, .int .i64 t] w (ChgEnd w old now t) := by
  obtain ⟨w0, hw0⟩ : ∃ w0, w.alloc (.cells #[.int .i64 t] 2) = w0 := ⟨_, rfl⟩
  have hb0 : Below w.heap.size w w0 := by rw [← hw0]; exact (Below.refl _ w).alloc (Nat.le_refl _) _
  have HT0 : Hid (Boxed w0 w.heap.size 2 (.int .i64 t)) := by rw [← hw0]; exact Boxed.new w _ _
  have HB0 := Lib.hid hb0
  have HF := Lib.hid (And.intro ha hb)
  have HC1 := Lib.hid (mayFs_any A c old w0 (ha.next hb0) hla hza)
  have HC2 := Lib.hid (fun X (h : Below w.heap.size w X) => mayFs_any B d now X (hb.next h) hlb hzb)
  have HKA := Lib.hid (And.intro hka hkb)
  clear ha hb hb0 hza hzb hka hkb
  obtain ⟨m1, hm1⟩ : ∃ m, mayFs old = m := ⟨_, rfl⟩
  obtain ⟨m2, hm2⟩ : ∃ m, mayFs now = m := ⟨_, rfl⟩
  rw [hm1] at HC1
  rw [hm2] at HC2
  have HM1 := Lib.hid hm1
  have HM2 := Lib.hid hm2
  clear hm1 hm2
  go_enter Tryz.func20, Tryz.ntmps20
  go_upto_region 1 with (fail)
  try rw [hw0]
  clear hw0
  go_wp2_with fail
  refine HC1.out.mono ?_
  rintro en w1 ⟨rfl, hb1⟩
  have HB1 := Lib.hid (HB0.out.trans (hb1.mono HB0.out.size))
  have HT1 : Hid (Boxed w1 w.heap.size 2 (.int .i64 t)) := (hb1.block _ HT0.out.lt).trans HT0.out
  clear hb1 HC1
  cases m1
  · go_wp2
    go_ret2
    exact ⟨⟨_, _, rfl, .inr (.inl ⟨by rw [HM1.out]; rfl, rfl, rfl⟩)⟩, HB1.out⟩
  have HC3 := Lib.hid (HC2.out w1 HB1.out)
  go_wp2_with fail
  refine HC3.out.mono ?_
  rintro en w2 ⟨rfl, hb2⟩
  have HB2 := Lib.hid (HB1.out.trans (hb2.mono HB1.out.size))
  have HT2 : Hid (Boxed w2 w.heap.size 2 (.int .i64 t)) := (hb2.block _ HT1.out.lt).trans HT1.out
  clear hb2 HC2 HC3
  cases m2
  · go_wp2
    go_ret2
    exact ⟨⟨_, _, rfl, .inr (.inl ⟨by rw [HM2.out]; simp, rfl, rfl⟩)⟩, HB2.out⟩
  have t0 := HT2.out.cell
  by_cases ht1 : t < 1
  · have e1 : decide (t < 1) = true := decide_eq_true ht1
    have HN : Hid (txB t = false) := decide_eq_false (by omega)
    go_wp2
    go_ret2
    exact ⟨⟨_, _, rfl, .inr (.inr ⟨HM1.out, HM2.out, HN.out, rfl, rfl⟩)⟩, HB2.out⟩
  have e1 : decide (t < 1) = false := decide_eq_false ht1
  by_cases ht2 : 1099511627776 < t
  · have e2 : decide (1099511627776 < t) = true := decide_eq_true ht2
    have HN : Hid (txB t = false) := decide_eq_false (by omega)
    go_wp2
    go_ret2
    exact ⟨⟨_, _, rfl, .inr (.inr ⟨HM1.out, HM2.out, HN.out, rfl, rfl⟩)⟩, HB2.out⟩
  have e2 : decide (1099511627776 < t) = false := decide_eq_false ht2
  have HTX : Hid (txB t = true) := decide_eq_true (by omega)
  obtain ⟨w3, hw3⟩ : ∃ w3, (w2.alloc (.cells #[.slice none 0 0] 22)).alloc (.cells #[.func (.func 48) #[] #[.pointer (some ⟨w2.heap.size, 0, none⟩), .pointer (some ⟨w.heap.size, 0, none⟩)]] 96) = w3 := ⟨_, rfl⟩
  have hb3 : Below w2.heap.size w2 w3 := by rw [← hw3]; exact ((Below.refl _ w2).alloc (Nat.le_refl _) _).alloc (by simp) _
  have hz2 := HB2.out.size
  have HW3 : Hid (ChgW w t w2.heap.size w.heap.size (w2.heap.size + 1) [] w3) := by
    refine ⟨⟨.slice none 0 0, ?_, World.ownsRow_nil _ _ _ _⟩, (hb3.block _ HT2.out.lt).trans HT2.out, ?_, HB2.out.trans (hb3.mono HB2.out.size)⟩
    · rw [← hw3]; exact (Boxed.new w2 22 (.slice none 0 0)).alloc _
    · rw [← hw3]
      have := Boxed.new (w2.alloc (.cells #[.slice none 0 0] 22)) 96 (sayV w2.heap.size w.heap.size)
      rwa [World.size_alloc] at this
  have hsz3 : w3.heap.size = w2.heap.size + 2 := by rw [← hw3]; simp
  have hlt0 := HT2.out.lt
  have good : ∀ l : List FactP, mayFs l = true → (∀ f ∈ l, ∀ q ∈ f.l, SpOk q) → GoodF l := fun l h hk f hf => by
    have h1 := (of_decide_eq_true h).1 f hf
    unfold mayF at h1
    simp only [Bool.and_eq_true] at h1
    exact ⟨of_decide_eq_true h1.2, hk f hf⟩
  have HTG := Lib.hid (together_any t w2.heap.size w.heap.size (w2.heap.size + 1) A B c d old now [] w w3 HF.out.1 HF.out.2 HW3.out rfl hz2 (by omega) (by omega) (by omega) (by omega) (by omega) (good old HM1.out HKA.out.1) (good now HM2.out HKA.out.2) hs)
  clear hb3 good hsz3 ht1 ht2
  go_upto_region 7 with (fail)
  try rw [hw3]
  clear hw3
  go_wp2_with fail
  refine HTG.out.mono ?_
  rintro en w4 ⟨rfl, hcw⟩
  obtain ⟨v, hv1, hv2⟩ := hcw.row
  have z0 := hv1.cell
  have HV := Lib.hid hv2
  have HB4 := Lib.hid hcw.below
  clear hcw hv1 HTG
  obtain ⟨A9, c9, rfl, _⟩ := hv2.form
  clear hv2
  go_wp2
  go_ret2
  exact ⟨⟨_, _, rfl, .inl ⟨HM1.out, HM2.out, HTX.out, rfl, HV.out⟩⟩, HB4.out⟩
end Go.Proofs.YthhkabbgghepbaaGreat

/-
  CONTRACTS: facts.Of at an instant, and of a history; the chapter's datoms as the call's own.
-/
namespace Go.Proofs.YthhkabbgghepbaaGreat
open Go.RowKit Go.Shelf

theorem mayFs_size9 {fs : List FactP} (h : mayFs fs = true) : ∀ f ∈ fs, f.s.size ≤ 1000 := fun f hf => by
  have := (of_decide_eq_true h).1 f hf
  unfold mayF at this
  simp only [Bool.and_eq_true] at this
  exact mayB_size (mayD_val this.1.1)
/-- what Of answers of a view at an instant -/
def OfA (l : List Dat) (a s t : Int) (W : World) (u : Value) (ec : Int) : Prop :=
  (markB a = true ∧ markB s = true ∧ ((ec = 60 ∧ u = .slice none 0 0 ∧ (notMay (l.filter (seesB a s)) = true ∨ ¬ Goes (sortsD 1 (l.filter (seesB a s))))) ∨
    (ec = 0 ∧ notMay (l.filter (seesB a s)) = false ∧ Goes (sortsD 1 (l.filter (seesB a s))) ∧ ∃ fs, FoldsTo (runsL triD (sortsD 1 (l.filter (seesB a s)))) fs ∧ FV W u (atL t fs)))) ∨ ((markB a && markB s) = false ∧ ec = 2 ∧ u = .slice none 0 0)
set_option maxRecDepth 100000 in
set_option maxHeartbeats 2000000 in
theorem ofAt_any (a s v : Int) (A : Option Addr) (c : Nat) (l : List Dat) (w : World) (hs : SlD w w.heap.size A l) (hl : l.length ≤ 5000) (hz : ∀ d ∈ l, d.s.size ≤ maxLen) (hk : ∀ d ∈ l, SpOk (spD d)) (hfew : (l.filter (seesB a s)).length ≤ 3000 ∨ notMay (l.filter (seesB a s)) = true) :
    Calls Tryz.prog 14 #[.slice A l.length c, .agg #[.int .i64 a, .int .i64 s, .int .i64 v, .bool true, .bool false]] w fun e w' => ∃ u ec, e = .returned (.tuple #[u, .int .i64 ec]) ∧ OfA l a s v w' u ec ∧ Below w.heap.size w w' := by
  obtain ⟨w0, hw0⟩ : ∃ w0, w.alloc (.cells #[.int .i64 a, .int .i64 s, .int .i64 v, .bool true, .bool false] 24) = w0 := ⟨_, rfl⟩
  have hb0 : Below w.heap.size w w0 := by rw [← hw0]; exact (Below.refl _ _).alloc (Nat.le_refl _) _
  have HB0 := Lib.hid hb0
  have HVW : Hid (VwAt w0 w.heap.size a s v true false) := by rw [← hw0]; exact heap_alloc_new w _
  have HDT := Lib.hid (datomsF_any a s v true false A c l w0 ((hs.next hb0 (Nat.le_refl _)).more hb0.size) (by omega))
  have HZ := Lib.hid hz
  have HK := Lib.hid hk
  have HW := Lib.hid hfew
  have k0 := HVW.out.k0
  have k1 := HVW.out.k1
  have k2 := HVW.out.k2
  have k3 := HVW.out.k3
  have k4 := HVW.out.k4
  clear hs hz hk hfew hb0
  go_enter Tryz.func14, Tryz.ntmps14
  go_upto_region 1 with (fail)
  try rw [hw0]
  clear hw0
  go_wp2_with fail
  refine HDT.out.mono ?_
  rintro e w1 ⟨⟨A1, c1, n1, ec1, rfl, ⟨hma, hms, rfl, rfl, h1⟩ | ⟨hno, rfl, rfl, rfl, rfl⟩⟩, hb1⟩
  · have HM := Lib.hid (And.intro hma hms)
    have HB1 := Lib.hid (HB0.out.trans (hb1.mono HB0.out.size))
    have hvz := HVW.out.next hb1 HVW.out.lt
    have HBX := Lib.hid hb1.size
    have HS1 := Lib.hid h1
    obtain ⟨S, hS⟩ : ∃ S, sortsD 1 (l.filter (seesB a s)) = S := ⟨_, rfl⟩
    have hmem : ∀ x, x ∈ S ↔ x ∈ l.filter (seesB a s) := fun x => by rw [← hS]; exact (sorts_ups _).2 x
    have hml : ∀ x ∈ S, x ∈ l := fun x hx => (List.mem_filter.1 ((hmem x).1 hx)).1
    have hfs := sorts_few (l.filter (seesB a s))
    have hfl := List.length_filter_le (seesB a s) l
    have hSS : (sortsD 1 S).length ≤ S.length := sorts_few S
    have HFU := Lib.hid (fold_u A1 c1 S w1 (by rw [← hS]; exact h1) (by rw [← hS]; omega) (fun d hd => HZ.out d (hml d hd)) (fun d hd => HK.out d (hml d hd)) (fun h => by
      rw [hS] at hfs
      rcases HW.out with h2 | h2
      · exact ⟨by omega, by omega⟩
      · rw [same_may hmem, h2] at h; cases h))
    have HME := Lib.hid hmem
    rw [hS] at HS1
    rw [hS]
    have k3' := hvz.k3
    have k2' := hvz.k2
    clear h1 hma hms hb1 hvz hS hmem hml hfs hfl hSS k0 k1 k2 k3 k4
    go_wp2_with fail
    refine HFU.out.mono ?_
    rintro e w2 ⟨u, ec, rfl, hfu, hb2⟩
    have HB2 := Lib.hid (HB1.out.trans (hb2.mono HB1.out.size))
    have k3 := (hb2.cell (p := ⟨w.heap.size, 3, none⟩) (Nat.lt_of_lt_of_le HVW.out.lt (Nat.le_trans (Nat.le_refl _) (by have h1 := HVW.out.lt; have h2 := HB0.out.size; have h3 := HBX.out; omega)))).trans k3'
    have HU : Hid (FoldU (l.filter (seesB a s)) w2 u ec) := by
      have := hfu
      unfold FoldU at this ⊢
      rwa [same_may HME.out, same_sorts HME.out] at this
    have hbX := Lib.hid hb2
    have HLT : Hid (w.heap.size < w1.heap.size) := by show _ < _; exact Nat.lt_of_lt_of_le HVW.out.lt HBX.out
    clear hb2 k3' HFU
    rcases hfu with ⟨rfl, rfl, hbad⟩ | ⟨rfl, hm9, hg9, fs, hf9, hv9, hfl9, hfn9⟩
    · have HBD : Hid (notMay (l.filter (seesB a s)) = true ∨ ¬ Goes (sortsD 1 (l.filter (seesB a s)))) := by rw [same_may HME.out, same_sorts HME.out] at hbad; exact hbad
      clear hbad
      go_wp2
      go_ret2
      exact ⟨_, _, rfl, .inl ⟨HM.out.1, HM.out.2, .inl ⟨rfl, rfl, HBD.out⟩⟩, HB2.out⟩
    · have hmf := foldsTo_may hm9 hf9
      rw [same_may HME.out] at hm9
      rw [same_sorts HME.out] at hg9 hf9
      obtain ⟨A5, c5, rfl, _⟩ := id hv9
      have k2 := (hbX.out.cell (p := ⟨w.heap.size, 2, none⟩) HLT.out).trans k2'
      have HAT := Lib.hid (at_any v A5 c5 fs w2 hv9.a (by omega) (fun f hf => ⟨Nat.le_trans (mayFs_size9 hmf f hf) (by decide), by have := hfl9 f hf; omega⟩))
      rw [hmf] at HAT
      have HG := Lib.hid (And.intro hm9 (And.intro hg9 hf9))
      clear hmf hm9 hg9 hf9 hv9 hfl9 HU
      go_wp2_with fail
      refine HAT.out.mono ?_
      rintro e w3 ⟨⟨v3, ec3, rfl, ⟨_, rfl, hv3⟩ | ⟨hno, _⟩⟩, hb3⟩
      · have HV3 := Lib.hid hv3
        have HB3 := Lib.hid (HB2.out.trans (hb3.mono HB2.out.size))
        obtain ⟨A6, c6, rfl, _⟩ := id hv3
        clear hv3 hb3
        go_wp2
        go_ret2
        exact ⟨_, _, rfl, .inl ⟨HM.out.1, HM.out.2, .inr ⟨rfl, HG.out.1, HG.out.2.1, fs, HG.out.2.2, HV3.out⟩⟩, HB3.out⟩
      · cases hno
  · have HN := Lib.hid hno
    have HB1 := Lib.hid (HB0.out.trans (hb1.mono HB0.out.size))
    clear hb1 hno
    go_wp2
    go_ret2
    exact ⟨_, _, rfl, .inr ⟨HN.out, rfl, rfl⟩, HB1.out⟩
set_option maxRecDepth 100000 in
theorem ofHist_any (a s v : Int) (at_ : Bool) (A : Option Addr) (n c : Nat) (w : World) :
    Calls Tryz.prog 14 #[.slice A n c, .agg #[.int .i64 a, .int .i64 s, .int .i64 v, .bool at_, .bool true]] w fun e w' => e = .returned (.tuple #[.slice none 0 0, .int .i64 2]) ∧ Below w.heap.size w w' := by
  go_enter Tryz.func14, Tryz.ntmps14
  go_wp2
  go_ret2
  exact ⟨rfl, (Below.refl _ w).alloc (Nat.le_refl _) _⟩
theorem fewO_any (w : World) : Calls Tryz.prog 18 #[] w fun e w' => ∃ v, e = .returned v ∧ OwnD w' w.heap.size v [few1, few2] ∧ Below w.heap.size w w' := by
  have HO := Lib.hid one_any
  go_enter Tryz.func18, Tryz.ntmps18
  go_wp2_with fail
  refine (HO.out _).mono ?_
  rintro e w1 ⟨rfl, hb1⟩
  have HB1 := Lib.hid hb1
  clear hb1
  go_wp2_with fail
  refine (HO.out _).mono ?_
  rintro e w2 ⟨rfl, hb2⟩
  have HB2 := Lib.hid (HB1.out.trans (hb2.mono HB1.out.size))
  clear hb2
  go_wp2
  go_ret
  exact ⟨_, rfl, ⟨rfl, .inr ⟨w2.heap.size, 2, #[.int .i64 5, .int .i64 10, .int .i64 1, .int .i64 1, .string ⟨#[]⟩, .int .i64 1, .bool true, .int .i64 0, .int .i64 10, .int .i64 5, .int .i64 10, .int .i64 1, .int .i64 1, .string ⟨#[]⟩, .int .i64 2, .bool false, .int .i64 4, .int .i64 6], rfl, HB2.out.size, heap_alloc_new w2 _, Nat.le_refl _, by decide, rfl, rfl⟩⟩, HB2.out.alloc HB2.out.size _⟩
end Go.Proofs.YthhkabbgghepbaaGreat

/-
  THE LAW FactsStay: its walk.
-/
namespace Go.Proofs.YthhkabbgghepbaaGreat
open Go.RowKit Go.Shelf

theorem costD_leU (l : List Dat) (hs : ∀ p ∈ l, p.s.size ≤ 1048576) : costD l ≤ l.length * 1048596 ∧ (l.length : Int) * 20 ≤ costD l := by
  induction l with
  | nil => simp [costD]
  | cons p r ih =>
    have h1 := ih (fun q hq => hs q (by simp [hq]))
    have h2 := hs p (by simp)
    unfold costD at h1 ⊢
    simp only [List.map_cons, List.sum_cons, List.length_cons]
    omega
set_option maxRecDepth 100000 in
set_option maxHeartbeats 2000000 in
theorem greatD_upto (A : Option Addr) (c : Nat) (l : List Dat) (w : World) (B : Nat) (hs : SlD w B A l) (hl : l.length ≤ 1048576) (hz : ∀ d ∈ l, d.s.size ≤ 1048576) :
    Calls Tryz.prog 9 #[.slice A l.length c] w fun e w' => ((e = .returned (.int .i64 0) ∧ l.length ≤ 200) ∨ e = .returned (.int .i64 1)) ∧ w = w' := by
  have HS := Lib.hid hs
  have HZ := Lib.hid hz
  clear hs hz
  go_enter Tryz.func9, Tryz.ntmps9
  go_wp2
  go_loopg [3, 4] l.length (fun g x y wr => ∃ j : Nat, x = .int .i64 (costD (l.take j)) ∧ y = .int .i64 j ∧ j + g = l.length ∧ wr = w)
  case atStart => exact ⟨0, rfl, rfl, by omega, rfl⟩
  case round =>
    obtain ⟨j, rfl, rfl, hj, rfl⟩ := hrel
    cases gk with
    | succ g =>
      have hji : (j : Int) < (l.length : Int) := by omega
      have hjn : j < l.length := by omega
      obtain ⟨b, o, rfl, _, hp⟩ := HS.out.at_ hjn
      have c4 : wr.cell? ⟨b, o + j * 9 + 2 + 2, none⟩ = some (.string l[j].s) := hp.c4
      have hcs := Lib.hid (costD_take hjn)
      have hcl := costD_leU (l.take j) (fun p hp => HZ.out p (List.mem_of_mem_take hp))
      have htl : (l.take j).length ≤ 1048576 := by rw [List.length_take]; omega
      obtain ⟨T, hT⟩ : ∃ T, costD (l.take j) = T := ⟨_, rfl⟩
      rw [hT] at hcl
      rw [hT]
      have hTT : T ≤ 2040000000000000 := by omega
      have hT0 : 0 ≤ T := by omega
      have hsz := HZ.out _ (List.getElem_mem hjn)
      have HT := Lib.hid hT
      clear hp hT hcl htl
      go_wp2
      go_roundg g
      case measure => omega
      case rel => exact ⟨j + 1, by rw [hcs.out, HT.out], by go_num, by omega, rfl⟩
    | zero =>
      have hji : ¬ (j : Int) < (l.length : Int) := by omega
      have ht : l.take j = l := List.take_of_length_le (by omega)
      have hcl := costD_leU l HZ.out
      rw [ht]
      obtain ⟨T, hT⟩ : ∃ T, costD l = T := ⟨_, rfl⟩
      rw [hT] at hcl ⊢
      clear ht hT
      by_cases hn : 4000 < T
      · go_wp2
        go_ret
        exact ⟨.inr rfl, rfl⟩
      · have hl2 : l.length ≤ 200 := by omega
        clear hcl
        go_wp2
        go_ret
        first | exact ⟨.inl ⟨rfl, hl2⟩, rfl⟩ | exact ⟨.inl rfl, rfl⟩
theorem FoldU.next {l : List Dat} {W W' : World} {v : Value} {ec : Int} (h : FoldU l W v ec) (hb : Below W.heap.size W W') : FoldU l W' v ec := by
  rcases h with h | ⟨h1, h2, h3, fs, h4, h5, h6⟩
  · exact .inl h
  · exact .inr ⟨h1, h2, h3, fs, h4, h5.next hb, h6⟩
theorem FoldU.form {l : List Dat} {W : World} {v : Value} {ec : Int} (h : FoldU l W v ec) : ∃ A n c, v = .slice A n c := by
  rcases h with ⟨_, rfl, _⟩ | ⟨_, _, _, fs, _, ⟨A, c, rfl, _⟩, _⟩
  · exact ⟨_, _, _, rfl⟩
  · exact ⟨_, _, _, rfl⟩
theorem sameU_any {l m : List Dat} (h : ∀ x, x ∈ m ↔ x ∈ l) {w : World} {v v' : Value} {ec ec' : Int} (h1 : FoldU l w v ec) (h2 : FoldU m w v' ec') : ec = ec' ∧
    Calls Tryz.prog 16 #[v, v'] w fun e w' => e = .returned (.bool true) ∧ Below w.heap.size w w' := by
  obtain ⟨rfl, hsame⟩ := foldU_same h h1 h2
  refine ⟨rfl, ?_⟩
  rcases hsame with ⟨rfl, rfl⟩ | ⟨fs, q1, q2, q3, q4⟩
  · exact sameF_any none none 0 0 [] w ⟨none, 0, rfl, (fun h => absurd rfl h), Nat.le_refl _, Nat.zero_le _⟩ ⟨none, 0, rfl, (fun h => absurd rfl h), Nat.le_refl _, Nat.zero_le _⟩ (by decide) (fun f hf => by cases hf)
  · obtain ⟨A5, c5, rfl, _⟩ := id q1
    obtain ⟨A6, c6, rfl, _⟩ := id q2
    exact sameF_any A5 A6 c5 c6 fs w q1 q2 (by omega) (fun f hf => by have := q3 f hf; omega)
theorem OfU.fold {l : List Dat} {a s : Int} {W : World} {v : Value} {ec : Int} (h : OfU l a s W v ec) (ha : markB a = true) (hs : markB s = true) : FoldU (l.filter (seesB a s)) W v ec := by
  rcases h with ⟨_, _, h⟩ | ⟨h, _⟩
  · exact h
  · rw [ha, hs] at h; cases h
/-- behind a transaction -/
def lateB (t : Int) (d : Dat) : Bool := decide (t < d.t)
/-- a row kept beside another one that grows -/
theorem OwnD.beside {W w3 : World} {B : Nat} {v u : Value} {l : List Dat} (h : OwnD W B v l) (hg : W.grownBy w3 u.ownBlock) (ha : Ap u v) : OwnD w3 B v l := World.ownsRow.kept h hg (ap_kept ha)

set_option maxRecDepth 100000 in
set_option maxHeartbeats 8000000 in
theorem fStay_any (t : Int) (A A' : Option Addr) (c c' : Nat) (l m : List Dat) (w : World) (hs : SlD w w.heap.size A l) (hs' : SlD w w.heap.size A' m) (hA : A = none → l.length = 0 ∧ c = 0) (hl : l.length ≤ 1048576) (hl' : m.length ≤ 1048576)
    (hz : ∀ d, (d ∈ l ∨ d ∈ m) → d.s.size ≤ 1048576) (hk : ∀ d, (d ∈ l ∨ d ∈ m) → SpOk (spD d)) :
    Calls Tryz.prog 7 #[.slice A l.length c, .slice A' m.length c', .int .i64 t] w fun e w' => e = .returned (.bool true) ∧ Below w.heap.size w w' := by
  obtain ⟨i0, hi, hz0, hz1, hz2⟩ := info_parts infoD
  have hmx : 2000000000000 ≤ maxLen := by decide
  have HS := Lib.hid (And.intro hs hs')
  have HZ := Lib.hid hz
  have HK := Lib.hid hk
  have HA := Lib.hid hA
  clear hs hs' hz hk hA
  go_enter Tryz.func7, Tryz.ntmps7
  go_wp2_with fail
  refine (fAlive_any _).mono ?_
  rintro e w1 ⟨rfl, hb1⟩
  have HB1 := Lib.hid hb1
  have HSL := Lib.hid ((HS.out.1.next hb1 (Nat.le_refl _)).more hb1.size)
  have HSM := Lib.hid ((HS.out.2.next hb1 (Nat.le_refl _)).more hb1.size)
  clear hb1 HS
  have HGL := Lib.hid (greatD_upto A c l w1 _ HSL.out hl (fun d hd => HZ.out d (.inl hd)))
  have HGM := Lib.hid (greatD_upto A' c' m w1 _ HSM.out hl' (fun d hd => HZ.out d (.inr hd)))
  go_wp2_with fail
  refine HGL.out.mono ?_
  rintro e w' ⟨hgr, rfl⟩
  rcases hgr.symm with rfl | ⟨rfl, hlf⟩
  · go_wp2
    go_ret
    exact ⟨rfl, HB1.out⟩
  go_wp2_with fail
  refine HGM.out.mono ?_
  rintro e w' ⟨hgr, rfl⟩
  rcases hgr.symm with rfl | ⟨rfl, hmf⟩
  · go_wp2
    go_ret
    exact ⟨rfl, HB1.out⟩
  by_cases ht1 : t < 1
  · have e1 : decide (t < 1) = true := decide_eq_true ht1
    go_wp2
    go_ret
    exact ⟨rfl, HB1.out⟩
  have e1 : decide (t < 1) = false := decide_eq_false ht1
  by_cases ht2 : 1099511627776 < t
  · have e2 : decide (1099511627776 < t) = true := decide_eq_true ht2
    go_wp2
    go_ret
    exact ⟨rfl, HB1.out⟩
  have e2 : decide (1099511627776 < t) = false := decide_eq_false ht2
  have HMK : Hid (markB t = true) := by show _ = _; unfold markB; simp; omega
  have HMZ : Hid (markB 0 = true) := by show _ = _; decide
  have HNL := Lib.hid (HSL.out.news)
  have HO0 : Hid (OwnD w1 w1.heap.size (.slice none 0 0) []) := World.ownsRow_nil _ _ _ _
  have HT1 : Hid (1 ≤ t) := by show _ ≤ _; omega
  clear ht1 ht2 HGL HGM
  go_wp2_with (at_builtin; refine wpList_append_any rfl _ _ 22 rfl w1.heap.size 46 i0 (.agg #[.int .i64 0, .int .i64 0, .int .i64 0, .int .i64 0, .string ⟨#[]⟩, .int .i64 0, .bool false, .int .i64 0, .int .i64 0]) 9 80 Tryz.underlying22 hi hz0 hz1 hz2 rfl (by decide) _ _ _ rfl HO0.out A l.length c (l.flatMap cellsD) rfl (flatD_len l) HA.out HNL.out (cellsD_all l) (by rw [List.length_nil]; omega) (by rw [List.length_nil]; omega) (Nat.le_refl _) ?_; intro v8 w2 hown' hgrow; have HO8 : Hid (OwnD w2 w1.heap.size v8 l) := ownD_of (a := []) hown'; have HB2 := Lib.hid (below_ownD HO0.out hgrow (Nat.le_refl _)); clear hown' hgrow)
  obtain ⟨lm, hlm⟩ : ∃ q, m.filter (lateB t) = q := ⟨_, rfl⟩
  obtain ⟨ll, hll⟩ : ∃ q, l.filter (lateB t) = q := ⟨_, rfl⟩
  go_loopg [8, 9, 10] m.length (fun g x8 x9 x10 wr => ∃ j : Nat, OwnD wr w1.heap.size x8 (l ++ (m.take j).filter (lateB t)) ∧ OwnD wr w1.heap.size x9 ((m.take j).filter (lateB t)) ∧ Ap x8 x9 ∧ x10 = .int .i64 j ∧ j + g = m.length ∧ Hid (Below w1.heap.size w1 wr))
  case atStart => exact ⟨0, by rw [List.take_zero, List.filter_nil, List.append_nil]; exact HO8.out, World.ownsRow_nil _ _ _ _, (fun g h1 h2 => by cases h2), rfl, by omega, HB2.out⟩
  case round =>
    obtain ⟨j, ho8, ho9, hap, rfl, hj, HB⟩ := hrel
    have hsz := HB.out.size
    have hf9 : ((m.take j).filter (lateB t)).length ≤ j := Nat.le_trans (List.length_filter_le _ _) (List.length_take_le _ _)
    cases gk with
    | succ g =>
      have hji : (j : Int) < (m.length : Int) := by omega
      have hjn : j < m.length := by omega
      obtain ⟨b, q, rfl, hbl, hp⟩ := (HSM.out.next HB.out (Nat.le_refl _)).at_ hjn
      have hft := filter_take (lateB t) hjn
      obtain ⟨x, hpe⟩ : ∃ p, m[j] = p := ⟨_, rfl⟩
      rw [hpe] at hp hft
      obtain ⟨L, hL⟩ : ∃ L, (m.take j).filter (lateB t) = L := ⟨_, rfl⟩
      rw [hL] at ho8 ho9 hf9 hft
      have HO8 := Lib.hid ho8
      have HO9 := Lib.hid ho9
      have HAP := Lib.hid hap
      have HFT := Lib.hid hft
      have hbl' : b < w1.heap.size := hbl
      have HP := Lib.hid hp
      have c0 := hp.c0
      have c1 := hp.c1
      have c2 := hp.c2
      have c3 := hp.c3
      have c4 := hp.c4
      have c5 := hp.c5
      have c6 := hp.c6
      have c7 := hp.c7
      have c8 := hp.c8
      have h80 : (l ++ L).length ≤ 400 := by rw [List.length_append]; omega
      clear ho8 ho9 hap hft hL hp hpe
      by_cases hg : t < x.t
      · have eg : decide (t < x.t) = true := decide_eq_true hg
        have HF : Hid ((m.take (j + 1)).filter (lateB t) = L ++ [x]) := by show _ = _; rw [HFT.out]; unfold lateB; simp [hg]
        clear hg
        go_upto_region 12 with (at_builtin; refine wpList_append_own_at _ rfl _ _ 22 rfl w1.heap.size 46 i0 (.agg #[.int .i64 0, .int .i64 0, .int .i64 0, .int .i64 0, .string ⟨#[]⟩, .int .i64 0, .bool false, .int .i64 0, .int .i64 0]) 9 80 Tryz.underlying22 hi hz0 hz1 hz2 rfl (by decide) _ _ _ rfl (World.ownsRow.alloc HO8.out (.cells #[.int .i64 x.e, .int .i64 x.a, .int .i64 x.k, .int .i64 x.m, .string x.s, .int .i64 x.t, .bool x.add, .int .i64 x.fr, .int .i64 x.til] 46)) ⟨wr.heap.size, 0, none⟩ 1 1 (cellsD x) rfl rfl (fun j u h => cell_lit wr #[.int .i64 x.e, .int .i64 x.a, .int .i64 x.k, .int .i64 x.m, .string x.s, .int .i64 x.t, .bool x.add, .int .i64 x.fr, .int .i64 x.til] 46 j u h) (cellsD_one x) (by omega) (by omega) (by simp; omega) ?_; intro v3 w3 hown' hgrow _ hat)
        have ho3 : OwnD w3 w1.heap.size v3 (l ++ L ++ [x]) := ownD_of (b := [x]) (by simpa using hown')
        have hoY := World.ownsRow.alloc HO9.out (.cells #[.int .i64 x.e, .int .i64 x.a, .int .i64 x.k, .int .i64 x.m, .string x.s, .int .i64 x.t, .bool x.add, .int .i64 x.fr, .int .i64 x.til] 46)
        have ho9' := OwnD.beside hoY hgrow HAP.out
        have hap' := ap_next HAP.out hoY hat
        have hb3 : Below w1.heap.size wr w3 := ((Below.refl _ wr).alloc hsz (.cells #[.int .i64 x.e, .int .i64 x.a, .int .i64 x.k, .int .i64 x.m, .string x.s, .int .i64 x.t, .bool x.add, .int .i64 x.fr, .int .i64 x.til] 46)).trans (below_ownD (World.ownsRow.alloc HO8.out _) hgrow (by simp; omega))
        have HO83 := Lib.hid ho3
        have HO93 := Lib.hid ho9'
        have HAP3 := Lib.hid hap'
        have HB3 := Lib.hid (HB.out.trans hb3)
        have hsz3 := HB3.out.size
        have hp3 := HP.out.next hb3 hbl'
        clear c0 c1 c2 c3 c4 c5 c6 c7 c8 hown' hgrow hat ho3 hoY ho9' hap' hb3
        have c0 := hp3.c0
        have c1 := hp3.c1
        have c2 := hp3.c2
        have c3 := hp3.c3
        have c4 := hp3.c4
        have c5 := hp3.c5
        have c6 := hp3.c6
        have c7 := hp3.c7
        have c8 := hp3.c8
        clear hp3
        go_wp2_with (at_builtin; refine wpList_append_own_at _ rfl _ _ 22 rfl w1.heap.size 46 i0 (.agg #[.int .i64 0, .int .i64 0, .int .i64 0, .int .i64 0, .string ⟨#[]⟩, .int .i64 0, .bool false, .int .i64 0, .int .i64 0]) 9 80 Tryz.underlying22 hi hz0 hz1 hz2 rfl (by decide) _ _ _ rfl (World.ownsRow.alloc HO93.out (.cells #[.int .i64 x.e, .int .i64 x.a, .int .i64 x.k, .int .i64 x.m, .string x.s, .int .i64 x.t, .bool x.add, .int .i64 x.fr, .int .i64 x.til] 46)) ⟨w3.heap.size, 0, none⟩ 1 1 (cellsD x) rfl rfl (fun j u h => cell_lit w3 #[.int .i64 x.e, .int .i64 x.a, .int .i64 x.k, .int .i64 x.m, .string x.s, .int .i64 x.t, .bool x.add, .int .i64 x.fr, .int .i64 x.til] 46 j u h) (cellsD_one x) (by omega) (by omega) (by simp; omega) ?_; intro v4 w4 hown' hgrow _ hat)
        have ho4 : OwnD w4 w1.heap.size v4 (L ++ [x]) := ownD_of (b := [x]) (by simpa using hown')
        have hoY := World.ownsRow.alloc HO83.out (.cells #[.int .i64 x.e, .int .i64 x.a, .int .i64 x.k, .int .i64 x.m, .string x.s, .int .i64 x.t, .bool x.add, .int .i64 x.fr, .int .i64 x.til] 46)
        have ho8' := OwnD.beside hoY hgrow HAP3.out.symm
        have hap' := (ap_next HAP3.out.symm hoY hat).symm
        have hb4 : Below w1.heap.size w3 w4 := ((Below.refl _ w3).alloc hsz3 (.cells #[.int .i64 x.e, .int .i64 x.a, .int .i64 x.k, .int .i64 x.m, .string x.s, .int .i64 x.t, .bool x.add, .int .i64 x.fr, .int .i64 x.til] 46)).trans (below_ownD (World.ownsRow.alloc HO93.out _) hgrow (by simp; omega))
        have HO84 := Lib.hid ho8'
        have HO94 := Lib.hid ho4
        have HAP4 := Lib.hid hap'
        have HB4 := Lib.hid (HB3.out.trans hb4)
        clear hown' hgrow hat ho4 hoY ho8' hap' hb4
        go_roundg g
        case measure => omega
        case rel => exact ⟨j + 1, by rw [HF.out, ← List.append_assoc]; exact HO84.out, by rw [HF.out]; exact HO94.out, HAP4.out, by go_num, by omega, HB4.out⟩
      · have eg : decide (t < x.t) = false := decide_eq_false hg
        have HF : Hid ((m.take (j + 1)).filter (lateB t) = L) := by show _ = _; rw [HFT.out]; unfold lateB; simp [hg]
        clear hg
        go_wp2
        go_roundg g
        case measure => omega
        case rel => exact ⟨j + 1, by rw [HF.out]; exact HO8.out, by rw [HF.out]; exact HO9.out, HAP.out, by go_num, by omega, HB.out⟩
    | zero =>
      have hji : ¬ (j : Int) < (m.length : Int) := by omega
      rw [List.take_of_length_le (by omega), hlm] at ho8 ho9 hf9
      have hlmf : lm.length ≤ 200 := by omega
      obtain ⟨bl, hbq⟩ : ∃ q, l ++ lm = q := ⟨_, rfl⟩
      have h400 : bl.length ≤ 400 := by rw [← hbq, List.length_append]; omega
      rw [hbq] at ho8
      have HBQ := Lib.hid hbq
      clear hbq
      have HO8 := Lib.hid ho8
      have HO9 := Lib.hid ho9
      have HAP := Lib.hid hap
      clear ho8 ho9 hap
      obtain ⟨A8, c8, rfl, hs8, hlc8, hcm8, hn8, _⟩ := HO8.out.form
      clear hs8 hlc8 hcm8 hn8
      rename_i wq
      go_wp2
      go_loopg [9, 11] l.length (fun g y9 y11 wr => ∃ j : Nat, OwnD wr w1.heap.size y9 (lm ++ (l.take j).filter (lateB t)) ∧ OwnD wr w1.heap.size (.slice A8 bl.length c8) bl ∧ Ap (.slice A8 bl.length c8) y9 ∧ y11 = .int .i64 j ∧ j + g = l.length ∧ Hid (Below w1.heap.size w1 wr))
      case atStart => exact ⟨0, by rw [List.take_zero, List.filter_nil, List.append_nil]; exact HO9.out, HO8.out, HAP.out, rfl, by omega, HB.out⟩
      case round =>
        obtain ⟨k, hq9, hq8, hqp, rfl, hk, HC⟩ := hrel
        have hszc := HC.out.size
        have hg9 : ((l.take k).filter (lateB t)).length ≤ k := Nat.le_trans (List.length_filter_le _ _) (List.length_take_le _ _)
        cases gk with
        | succ g =>
          have hki : (k : Int) < (l.length : Int) := by omega
          have hkn : k < l.length := by omega
          obtain ⟨b, q, rfl, hbl, hp⟩ := (HSL.out.next HC.out (Nat.le_refl _)).at_ hkn
          have hft := filter_take (lateB t) hkn
          obtain ⟨x, hpe⟩ : ∃ p, l[k] = p := ⟨_, rfl⟩
          rw [hpe] at hp hft
          obtain ⟨L, hL⟩ : ∃ L, (l.take k).filter (lateB t) = L := ⟨_, rfl⟩
          rw [hL] at hq9 hg9 hft
          have HQ8 := Lib.hid hq8
          have HQ9 := Lib.hid hq9
          have HQP := Lib.hid hqp
          have HFT := Lib.hid hft
          have c0 := hp.c0
          have c1 := hp.c1
          have c2 := hp.c2
          have c3 := hp.c3
          have c4 := hp.c4
          have c5 := hp.c5
          have c6 := hp.c6
          have c7 := hp.c7
          have c8' := hp.c8
          have h81 : (lm ++ L).length ≤ 400 := by rw [List.length_append]; omega
          clear hq8 hq9 hqp hft hL hp hpe
          by_cases hg : t < x.t
          · have eg : decide (t < x.t) = true := decide_eq_true hg
            have HF : Hid ((l.take (k + 1)).filter (lateB t) = L ++ [x]) := by show _ = _; rw [HFT.out]; unfold lateB; simp [hg]
            clear hg
            go_wp2_with (at_builtin; refine wpList_append_own_at _ rfl _ _ 22 rfl w1.heap.size 46 i0 (.agg #[.int .i64 0, .int .i64 0, .int .i64 0, .int .i64 0, .string ⟨#[]⟩, .int .i64 0, .bool false, .int .i64 0, .int .i64 0]) 9 80 Tryz.underlying22 hi hz0 hz1 hz2 rfl (by decide) _ _ _ rfl (World.ownsRow.alloc HQ9.out (.cells #[.int .i64 x.e, .int .i64 x.a, .int .i64 x.k, .int .i64 x.m, .string x.s, .int .i64 x.t, .bool x.add, .int .i64 x.fr, .int .i64 x.til] 46)) ⟨wr.heap.size, 0, none⟩ 1 1 (cellsD x) rfl rfl (fun j u h => cell_lit wr #[.int .i64 x.e, .int .i64 x.a, .int .i64 x.k, .int .i64 x.m, .string x.s, .int .i64 x.t, .bool x.add, .int .i64 x.fr, .int .i64 x.til] 46 j u h) (cellsD_one x) (by omega) (by omega) (by simp; omega) ?_; intro v4 w4 hown' hgrow _ hat)
            have ho4 : OwnD w4 w1.heap.size v4 (lm ++ L ++ [x]) := ownD_of (b := [x]) (by simpa using hown')
            have hoY := World.ownsRow.alloc HQ8.out (.cells #[.int .i64 x.e, .int .i64 x.a, .int .i64 x.k, .int .i64 x.m, .string x.s, .int .i64 x.t, .bool x.add, .int .i64 x.fr, .int .i64 x.til] 46)
            have ho8' := OwnD.beside hoY hgrow HQP.out.symm
            have hap' := (ap_next HQP.out.symm hoY hat).symm
            have hb4 : Below w1.heap.size wr w4 := ((Below.refl _ wr).alloc hszc (.cells #[.int .i64 x.e, .int .i64 x.a, .int .i64 x.k, .int .i64 x.m, .string x.s, .int .i64 x.t, .bool x.add, .int .i64 x.fr, .int .i64 x.til] 46)).trans (below_ownD (World.ownsRow.alloc HQ9.out _) hgrow (by simp; omega))
            have HO84 := Lib.hid ho8'
            have HO94 := Lib.hid ho4
            have HAP4 := Lib.hid hap'
            have HB4 := Lib.hid (HC.out.trans hb4)
            clear hown' hgrow hat ho4 hoY ho8' hap' hb4
            go_roundg g
            case measure => omega
            case rel => exact ⟨k + 1, by rw [HF.out, ← List.append_assoc]; exact HO94.out, HO84.out, HAP4.out, by go_num, by omega, HB4.out⟩
          · have eg : decide (t < x.t) = false := decide_eq_false hg
            have HF : Hid ((l.take (k + 1)).filter (lateB t) = L) := by show _ = _; rw [HFT.out]; unfold lateB; simp [hg]
            clear hg
            go_wp2
            go_roundg g
            case measure => omega
            case rel => exact ⟨k + 1, by rw [HF.out]; exact HQ9.out, HQ8.out, HQP.out, by go_num, by omega, HC.out⟩
        | zero =>
          have hki : ¬ (k : Int) < (l.length : Int) := by omega
          rw [List.take_of_length_le (by omega), hll] at hq9 hg9
          have hllf : ll.length ≤ 200 := by omega
          have hmz : ∀ d, (d ∈ l ∨ d ∈ m) → d.s.size ≤ maxLen := fun d hd => Nat.le_trans (HZ.out d hd) (by decide)
          have hlm9 : ∀ d ∈ lm, d ∈ m := fun d hd => by rw [← hlm] at hd; exact (List.mem_filter.1 hd).1
          have hll9 : ∀ d ∈ ll, d ∈ l := fun d hd => by rw [← hll] at hd; exact (List.mem_filter.1 hd).1
          obtain ⟨lt, hlt⟩ : ∃ q, lm ++ ll = q := ⟨_, rfl⟩
          have HLT := Lib.hid hlt
          have h9l : lt.length ≤ 400 := by rw [← hlt, List.length_append]; omega
          rw [hlt] at hq9
          clear hlt
          have hbz : ∀ d ∈ bl, d ∈ l ∨ d ∈ m := fun d hd => (List.mem_append.1 (show d ∈ l ++ lm by rw [HBQ.out]; exact hd)).imp id (hlm9 d)
          have hlz : ∀ d ∈ lt, d ∈ l ∨ d ∈ m := fun d hd => (List.mem_append.1 (show d ∈ lm ++ ll by rw [HLT.out]; exact hd)).elim (fun h => .inr (hlm9 d h)) (fun h => .inl (hll9 d h))
          obtain ⟨A9, c9, rfl, hs9, _, _, _, _⟩ := hq9.form
          obtain ⟨A8', c8', e8, hs8, _, _, _, _⟩ := hq8.form
          cases e8
          have HS9 := Lib.hid hs9
          have HS8 := Lib.hid hs8
          have HSLc := Lib.hid ((HSL.out.next HC.out (Nat.le_refl _)).more hszc)
          have hfl1 : ∀ p, (l.filter p).length ≤ 3000 := fun p => Nat.le_trans (List.length_filter_le p l) (by omega)
          have hfl2 : ∀ p, (bl.filter p).length ≤ 3000 := fun p => Nat.le_trans (List.length_filter_le p bl) (by omega)
          have HO1 := Lib.hid (of_any t 0 0 A c l wr HSLc.out (by omega) (fun d hd => hmz d (.inl hd)) (fun d hd => HK.out d (.inl hd)) (.inl (hfl1 _)))
          have HO2 := Lib.hid (fun W (h : SlD W W.heap.size A8 bl) => of_any t 0 0 A8 c8 bl W h (by omega) (fun d hd => hmz d (hbz d hd)) (fun d hd => HK.out d (hbz d hd)) (.inl (hfl2 _)))
          have HO3 := Lib.hid (fun W (h : SlD W W.heap.size A8 bl) => of_any 0 t 0 A8 c8 bl W h (by omega) (fun d hd => hmz d (hbz d hd)) (fun d hd => HK.out d (hbz d hd)) (.inl (hfl2 _)))
          have HO4 := Lib.hid (fun W (h : SlD W W.heap.size A9 lt) => fold_u A9 c9 lt W h (by omega) (fun d hd => hmz d (hlz d hd)) (fun d hd => HK.out d (hlz d hd)) (fun _ => ⟨by omega, by have := sorts_few lt; omega⟩))
          have HE1 : Hid (∀ x, x ∈ bl.filter (seesB t 0) ↔ x ∈ l.filter (seesB t 0)) := fun x => by
            rw [← HBQ.out, List.mem_filter, List.mem_filter, List.mem_append]
            constructor
            · rintro ⟨h | h, h2⟩
              · exact ⟨h, h2⟩
              · rw [← hlm] at h
                have h3 := (List.mem_filter.1 h).2
                unfold lateB at h3
                unfold seesB at h2
                have h4 := HT1.out
                simp at h2 h3
                omega
            · rintro ⟨h, h2⟩
              exact ⟨.inl h, h2⟩
          have HE2 : Hid (∀ x, x ∈ lt ↔ x ∈ bl.filter (seesB 0 t)) := fun x => by
            rw [← HLT.out, ← HBQ.out]
            have hsl : seesB 0 t x = lateB t x := by unfold seesB lateB; simp
            rw [List.mem_filter, List.mem_append, List.mem_append, hsl, ← hlm, ← hll, List.mem_filter, List.mem_filter]
            constructor
            · rintro (⟨h1, h2⟩ | ⟨h1, h2⟩)
              · exact ⟨.inr ⟨h1, h2⟩, h2⟩
              · exact ⟨.inl h1, h2⟩
            · rintro ⟨h1 | ⟨h1, _⟩, h2⟩
              · exact .inr ⟨h1, h2⟩
              · exact .inl ⟨h1, h2⟩
          have HBW := Lib.hid (HB1.out.trans (HC.out.mono HB1.out.size))
          clear hq9 hq8 hqp hg9 hmz hlm9 hll9 hbz hlz hs9 hs8 hfl1 hfl2
          go_wp2_with fail
          refine HO1.out.mono ?_
          rintro e y1 ⟨u1, ec1, rfl, ho1, hy1⟩
          have HU1 := Lib.hid (ho1.fold HMK.out HMZ.out)
          have HY1 := Lib.hid (HBW.out.trans (hy1.mono HBW.out.size))
          have HT8 := Lib.hid ((HS8.out.next hy1 (Nat.le_refl _)).more hy1.size)
          have HT9 := Lib.hid ((HS9.out.next hy1 (Nat.le_refl _)).more hy1.size)
          have HO2' := Lib.hid (HO2.out y1 HT8.out)
          obtain ⟨F1, n1, d1, rfl⟩ := HU1.out.form
          clear ho1 hy1 HO1 HO2
          go_wp2_with fail
          refine HO2'.out.mono ?_
          rintro e y2 ⟨u2, ec2, rfl, ho2, hy2⟩
          have HU2 := Lib.hid (ho2.fold HMK.out HMZ.out)
          have HU12 := Lib.hid (HU1.out.next hy2)
          have HY2 := Lib.hid (HY1.out.trans (hy2.mono HY1.out.size))
          have HR8 := Lib.hid ((HT8.out.next hy2 (Nat.le_refl _)).more hy2.size)
          have HR9 := Lib.hid ((HT9.out.next hy2 (Nat.le_refl _)).more hy2.size)
          have HO3' := Lib.hid (HO3.out y2 HR8.out)
          obtain ⟨F2, n2, d2, rfl⟩ := HU2.out.form
          clear ho2 hy2 HO2' HO3 HU1
          go_wp2_with fail
          refine HO3'.out.mono ?_
          rintro e y3 ⟨u3, ec3, rfl, ho3, hy3⟩
          have HU3 := Lib.hid (ho3.fold HMZ.out HMK.out)
          have HU13 := Lib.hid (HU12.out.next hy3)
          have HU23 := Lib.hid (HU2.out.next hy3)
          have HY3 := Lib.hid (HY2.out.trans (hy3.mono HY2.out.size))
          have HQ9 := Lib.hid ((HR9.out.next hy3 (Nat.le_refl _)).more hy3.size)
          have HO4' := Lib.hid (HO4.out y3 HQ9.out)
          obtain ⟨F3, n3, d3, rfl⟩ := HU3.out.form
          clear ho3 hy3 HO3' HO4 HU12 HU2
          go_wp2_with fail
          refine HO4'.out.mono ?_
          rintro e y4 ⟨u4, ec4, rfl, ho4, hy4⟩
          have HU14 := Lib.hid (HU13.out.next hy4)
          have HU24 := Lib.hid (HU23.out.next hy4)
          have HU34 := Lib.hid (HU3.out.next hy4)
          have HU44 := Lib.hid ho4
          have HY4 := Lib.hid (HY3.out.trans (hy4.mono HY3.out.size))
          obtain ⟨F4, n4, d4, rfl⟩ := HU44.out.form
          obtain ⟨rfl, hsm⟩ := sameU_any HE1.out HU14.out HU24.out
          have HSM := Lib.hid hsm
          have HSM2 := Lib.hid (fun W (hb : Below y4.heap.size y4 W) => sameU_any HE2.out (HU34.out.next hb) (HU44.out.next hb))
          obtain ⟨rfl, _⟩ := sameU_any HE2.out HU34.out HU44.out
          clear ho4 hy4 HO4' HU13 HU23 HU3 hsm
          go_wp2_with fail
          refine HSM.out.mono ?_
          rintro e y5 ⟨rfl, hy5⟩
          have HY5 := Lib.hid (HY4.out.trans (hy5.mono HY4.out.size))
          have HSM3 := Lib.hid (HSM2.out y5 hy5).2
          clear hy5 HSM HSM2
          go_wp2_with fail
          refine HSM3.out.mono ?_
          rintro e y6 ⟨rfl, hy6⟩
          have HY6 := Lib.hid (HY5.out.trans (hy6.mono HY5.out.size))
          clear hy6
          go_wp2
          go_ret
          exact ⟨rfl, HY6.out⟩
end Go.Proofs.YthhkabbgghepbaaGreat

/-
  THE LAW FactsNames.
-/
namespace Go.Proofs.YthhkabbgghepbaaGreat
open Go.RowKit Go.Shelf

theorem foldU_one {W : World} {u : Value} {ec : Int} (h : FoldU [few1] W u ec) : ec = 0 ∧ FV W u [F10] := by
  rcases h with ⟨_, _, h | h⟩ | ⟨rfl, _, _, fs, hf, hv, _⟩
  · rw [may_few1] at h; cases h
  · exact absurd (goes_one few1) h
  · obtain rfl := few1_to hf
    exact ⟨rfl, hv⟩
theorem foldU_two {W : World} {u : Value} {ec : Int} (h : FoldU [few2] W u ec) : ec = 0 ∧ FV W u [] := by
  rcases h with ⟨_, _, h | h⟩ | ⟨rfl, _, _, fs, hf, hv, _⟩
  · rw [may_few2] at h; cases h
  · exact absurd (goes_one few2) h
  · obtain rfl := few2_to hf
    exact ⟨rfl, hv⟩
/-- what is kept over the calls of the law -/
def NmS (B : Nat) (v : Value) (sv : Value) (a : Value) (A : Option Addr) (W : World) : Prop := OwnF W B v [(F5, sv)] ∧ (a = .slice none 0 0 ∨ FV W a [F10]) ∧ (A ≠ none → SlD W W.heap.size A [ch1, ch2])
theorem NmS.next {B : Nat} {v sv a : Value} {A : Option Addr} {W W' : World} (h : NmS B v sv a A W) (hb : Below W.heap.size W W') : NmS B v sv a A W' :=
  ⟨h.1.next hb, h.2.1.imp id (fun k => k.next hb), fun q => ((h.2.2 q).next hb (Nat.le_refl _)).more hb.size⟩
/-- the cells of the two changes that the law looks at -/
def ChS (b o : Nat) (W : World) : Prop := W.cell? ⟨b, o, none⟩ = some (.int .i64 5) ∧ W.cell? ⟨b, o + 1, none⟩ = some (.int .i64 10) ∧ W.cell? ⟨b, o + 2, none⟩ = some (.int .i64 1) ∧ W.cell? ⟨b, o + 3, none⟩ = some (.int .i64 1) ∧ W.cell? ⟨b, o + 4, none⟩ = some (.string ⟨#[]⟩) ∧ W.cell? ⟨b, o + 5, none⟩ = some (.int .i64 3) ∧ W.cell? ⟨b, o + 6, none⟩ = some (.bool true) ∧ W.cell? ⟨b, o + 7, none⟩ = some (.int .i64 0) ∧ W.cell? ⟨b, o + 8, none⟩ = some (.int .i64 4) ∧ W.cell? ⟨b, o + 9 + 7, none⟩ = some (.int .i64 6) ∧ b < W.heap.size
theorem ChS.next {b o : Nat} {W W' : World} (h : ChS b o W) (hb : Below W.heap.size W W') : ChS b o W' := by
  obtain ⟨h0, h1, h2, h3, h4, h5, h6, h7, h8, h9, hl⟩ := h
  have up : ∀ i u, W.cell? ⟨b, i, none⟩ = some u → W'.cell? ⟨b, i, none⟩ = some u := fun i u h => (hb.cell (p := ⟨b, i, none⟩) hl).trans h
  exact ⟨up _ _ h0, up _ _ h1, up _ _ h2, up _ _ h3, up _ _ h4, up _ _ h5, up _ _ h6, up _ _ h7, up _ _ h8, up _ _ h9, Nat.lt_of_lt_of_le hl hb.size⟩
/-- a guarded operation that is wanted goes as one with no guard -/
theorem wpList_wanted {P : Program} {w : World} {ops : Array Oper} {rest : List Oper} {o : Oper} {a : Act} {Q : Exit → Act → World → Prop} (hw : Region.wanted o (yielded ops a.tmps) = true) (h : wpList P ops Q ({ o with guard := none } :: rest) a w) : wpList P ops Q (o :: rest) a w := by
  unfold wpList at h ⊢
  rw [if_pos hw]
  rw [if_pos (by simp [Region.wanted])] at h
  exact h
theorem nil_fva (W : World) : FVa W (.slice none 0 0) [] := ⟨none, 0, rfl, fun h => absurd rfl h, Nat.le_refl _, Nat.zero_le _⟩
theorem ownF_one {W : World} {B : Nat} {v : Value} {ps : List (FactP × Value)} (h : OwnF W B v ps) (hp : ps.map (·.1) = [F5]) : ∃ sv g cap, ps = [(F5, sv)] ∧ v = .slice (some ⟨g, 0, none⟩) 1 cap := by
  cases ps with
  | nil => cases hp
  | cons p r =>
    cases r with
    | cons q r => simp at hp
    | nil =>
      obtain ⟨f, sv⟩ := p
      simp at hp
      subst hp
      obtain ⟨g, cap, e⟩ := ownsRow_succ' h.1
      exact ⟨sv, g, cap, rfl, e⟩
set_option maxRecDepth 100000 in
set_option maxHeartbeats 16000000 in
theorem fNames_any (w : World) : Calls Tryz.prog 4 #[] w fun e w' => e = .returned (.bool true) ∧ Below w.heap.size w w' := by
  obtain ⟨i0, hi, hz0, hz1, hz2⟩ := info_parts infoD
  obtain ⟨iF, hiF, hF0, hF1, hF2⟩ := info_parts infoF
  have hmx : 2000000000000 ≤ maxLen := by decide
  go_enter Tryz.func4, Tryz.ntmps4
  go_wp2_with fail
  refine (fewF_any _).mono ?_
  rintro e w1 ⟨A1, c1, rfl, hs1, hb1⟩
  have HB1 := Lib.hid hb1
  have HF1 := Lib.hid (fold_any A1 c1 [few1, few2] w1 hs1 (by decide) (by rw [few_sorts]; decide) (fun d hd => few_sz hd) (fun d hd => few_ok hd) may_few)
  clear hs1 hb1
  go_wp2_with fail
  refine HF1.out.mono ?_
  rintro e w2 ⟨⟨v, ec, rfl, ⟨rfl, _, fs, hf, _, _, ps, hps, hpe⟩ | ⟨_, _, hn⟩⟩, hb2⟩
  rotate_left
  · rw [few_sorts] at hn
    exact absurd few_goes hn
  rw [few_sorts] at hf
  have hf5 : fs = [F5] := few_to hf
  rw [hf5] at hpe
  obtain ⟨sv, g, cap, rfl, rfl⟩ := ownF_one hps hpe
  obtain ⟨BB, hBB⟩ : ∃ b, w1.heap.size = b := ⟨_, rfl⟩
  rw [hBB] at hps
  have HN : Hid (NmS BB (.slice (some ⟨g, 0, none⟩) 1 cap) sv (.slice none 0 0) none w2) := ⟨hps, .inl rfl, fun h => absurd rfl h⟩
  have HB := Lib.hid (HB1.out.trans (hb2.mono HB1.out.size))
  have HBB : Hid (BB ≤ w2.heap.size) := by rw [← hBB]; exact hb2.size
  have HGL : Hid (BB ≤ g) := (World.ownsRow.lt hps.1 g rfl).1
  have HWB : Hid (w.heap.size ≤ BB) := by rw [← hBB]; exact HB1.out.size
  clear hps hb2 hf hf5 hpe HF1 hBB
  go_wp2_with fail
  refine (fewF_any _).mono ?_
  rintro e x2 ⟨A2, c2, rfl, hs2, hb2⟩
  have HOF2 := Lib.hid (of_any 1 0 0 A2 c2 [few1, few2] x2 hs2 (by decide) (fun d hd => few_sz hd) (fun d hd => few_ok hd) (.inl (Nat.le_trans (List.length_filter_le _ _) (by decide))))
  have HN2a := Lib.hid (HN.out.next hb2)
  have HB2a := Lib.hid (HB.out.trans (hb2.mono HB.out.size))
  clear hs2 hb2 HN HB
  go_wp2_with fail
  refine HOF2.out.mono ?_
  rintro e y2 ⟨u2, ec2, rfl, ho2, hd2⟩
  have HN := Lib.hid (HN2a.out.next hd2)
  have HB := Lib.hid (HB2a.out.trans (hd2.mono HB2a.out.size))
  have hu2 := ho2.fold (by decide) (by decide)
  rw [sees_a] at hu2
  obtain ⟨rfl, hv2⟩ := foldU_one hu2
  obtain ⟨F2, q2, rfl, hq2⟩ := id hv2
  have HNX : Hid (NmS BB (.slice (some ⟨g, 0, none⟩) 1 cap) sv (.slice F2 [F10].length q2) none y2) := ⟨HN.out.1, .inr hv2, fun h => absurd rfl h⟩
  simp only [List.length_cons, List.length_nil, Nat.zero_add] at HNX ⊢
  clear hu2 hv2 ho2 hd2 HN HOF2 hq2
  have HN := Lib.hid HNX.out
  clear HNX
  go_wp2_with fail
  refine (fewF_any _).mono ?_
  rintro e x3 ⟨A3, c3, rfl, hs3, hb3⟩
  have HOF3 := Lib.hid (of_any 0 1 0 A3 c3 [few1, few2] x3 hs3 (by decide) (fun d hd => few_sz hd) (fun d hd => few_ok hd) (.inl (Nat.le_trans (List.length_filter_le _ _) (by decide))))
  have HN3a := Lib.hid (HN.out.next hb3)
  have HB3a := Lib.hid (HB.out.trans (hb3.mono HB.out.size))
  clear hs3 hb3 HN HB
  go_wp2_with fail
  refine HOF3.out.mono ?_
  rintro e y3 ⟨u3, ec3, rfl, ho3, hd3⟩
  have HN := Lib.hid (HN3a.out.next hd3)
  have HB := Lib.hid (HB3a.out.trans (hd3.mono HB3a.out.size))
  have hu3 := ho3.fold (by decide) (by decide)
  rw [sees_b] at hu3
  obtain ⟨rfl, hv3⟩ := foldU_two hu3
  obtain ⟨F3, q3, rfl, _⟩ := id hv3
  simp only [List.length_nil]
  clear hu3 hv3 ho3 hd3 HOF3
  go_wp2_with fail
  refine (fewF_any _).mono ?_
  rintro e x4 ⟨A4, c4, rfl, hs4, hb4⟩
  have HOF4 := Lib.hid (ofAt_any 0 0 5 A4 c4 [few1, few2] x4 hs4 (by decide) (fun d hd => few_sz hd) (fun d hd => few_ok hd) (.inl (Nat.le_trans (List.length_filter_le _ _) (by decide))))
  have HN4a := Lib.hid (HN.out.next hb4)
  have HB4a := Lib.hid (HB.out.trans (hb4.mono HB.out.size))
  clear hs4 hb4 HN HB
  go_wp2_with fail
  refine HOF4.out.mono ?_
  rintro e y4 ⟨u4, ec4, rfl, ho4, hd4⟩
  have HN := Lib.hid (HN4a.out.next hd4)
  have HB := Lib.hid (HB4a.out.trans (hd4.mono HB4a.out.size))
  have h4 : ec4 = 0 ∧ ∃ F4 q4, u4 = .slice F4 0 q4 := by
    rcases ho4 with ⟨_, _, ⟨_, _, hbad⟩ | ⟨rfl, _, _, fs, hf, hv⟩⟩ | ⟨hbad, _⟩
    · rw [sees_c] at hbad
      rcases hbad with h | h
      · rw [may_few] at h; cases h
      · rw [few_sorts] at h; exact absurd few_goes h
    · rw [sees_c, few_sorts] at hf
      have hf5 : fs = [F5] := few_to hf
      rw [hf5, show atL 5 [F5] = [] from f5_at] at hv
      obtain ⟨F4, q4, rfl, _⟩ := hv
      exact ⟨rfl, F4, q4, rfl⟩
    · exact absurd hbad (by decide)
  obtain ⟨rfl, F4, q4, rfl⟩ := h4
  clear ho4 hd4 HOF4
  go_wp2_with fail
  refine (fewO_any _).mono ?_
  rintro e x5 ⟨v5, rfl, hw5, hb5⟩
  have HX5 := Lib.hid hb5
  have HW5 := Lib.hid hw5
  clear hw5 hb5
  go_wp2_with fail
  refine (one_any _).mono ?_
  rintro e x6 ⟨rfl, hb6⟩
  have HX6 := Lib.hid (HX5.out.trans (hb6.mono HX5.out.size))
  have HW6 := Lib.hid (OwnD.next HW5.out hb6)
  have hs46 := HX6.out.size
  clear hb6 HX5 HW5
  go_wp2_with (at_builtin; go_loud (refine wpList_append_own _ rfl _ _ 22 rfl y4.heap.size 46 i0 (.agg #[.int .i64 0, .int .i64 0, .int .i64 0, .int .i64 0, .string ⟨#[]⟩, .int .i64 0, .bool false, .int .i64 0, .int .i64 0]) 9 80 Tryz.underlying22 hi hz0 hz1 hz2 rfl (by decide) _ _ _ rfl (World.ownsRow.alloc HW6.out _) ⟨x6.heap.size, 0, none⟩ 1 1 (cellsD few3) rfl rfl (fun j u h => cell_lit x6 #[.int .i64 5, .int .i64 10, .int .i64 1, .int .i64 1, .string ⟨#[]⟩, .int .i64 2, .bool true, .int .i64 5, .int .i64 7] 46 j u h) (cellsD_one few3) (by show 3 ≤ maxLen; omega) (by show 240 ≤ 140737488355328; decide) (by simp; omega) ?_); intro v' w7 hown' hgrow _; have HW7 : Hid (OwnD w7 y4.heap.size v' [few1, few2, few3]) := ownD_of (a := [few1, few2]) (b := [few3]) (by simpa using hown'); have HX7 := Lib.hid (HX6.out.trans (((Below.refl y4.heap.size x6).alloc hs46 (.cells #[.int .i64 5, .int .i64 10, .int .i64 1, .int .i64 1, .string ⟨#[]⟩, .int .i64 2, .bool true, .int .i64 5, .int .i64 7] 46)).trans (below_ownD (World.ownsRow.alloc HW6.out _) hgrow (by simp; omega)))); (obtain ⟨A7, c7, rfl, hs7, _, _, _, _⟩ := HW7.out.form); have HS7 := Lib.hid hs7; clear hown' hgrow hs7)
  have HFD := Lib.hid (fold_u A7 c7 [few1, few2, few3] w7 HS7.out (by decide) (fun d hd => by
    rcases List.mem_cons.1 hd with rfl | hd
    · decide
    · rcases List.mem_cons.1 hd with rfl | hd
      · decide
      · rw [List.mem_singleton.1 hd]; decide) (fun d hd => by
    rcases List.mem_cons.1 hd with rfl | hd
    · exact few_ok (by simp)
    · rcases List.mem_cons.1 hd with rfl | hd
      · exact few_ok (by simp)
      · rw [List.mem_singleton.1 hd]; exact ⟨⟨by decide, by decide⟩, by decide, by decide⟩) (fun _ => ⟨by decide, Nat.le_trans (sorts_few _) (by decide)⟩))
  refine HFD.out.mono ?_
  rintro e w8 ⟨v8, ec8, rfl, hfu, hb8⟩
  have h8 : ec8 = 60 ∧ v8 = .slice none 0 0 := by
    rcases hfu with ⟨h1, h2, _⟩ | ⟨_, _, hg, _⟩
    · exact ⟨h1, h2⟩
    · exact absurd hg few3_clash
  obtain ⟨rfl, rfl⟩ := h8
  have HN8 := Lib.hid (HN.out.next (HX7.out.trans (hb8.mono HX7.out.size)))
  have HB8 := Lib.hid (HB.out.trans ((HX7.out.trans (hb8.mono HX7.out.size)).mono HB.out.size))
  clear hfu hb8 HFD HS7 HW7 HX7 HW6 HX6 HN HB hs46
  have hF5z : ∀ f ∈ [F5], f.s.size ≤ maxLen ∧ f.l.length ≤ 100000 := fun f hf => by rw [List.mem_singleton.1 hf]; exact ⟨by decide, by decide⟩
  have hF5k : ∀ f ∈ [F5], ∀ q ∈ f.l, SpOk q := fun f hf q hq => by
    rw [List.mem_singleton.1 hf] at hq
    unfold F5 at hq
    simp only [List.mem_cons, List.not_mem_nil, or_false] at hq
    rcases hq with rfl | rfl
    · exact ⟨⟨by decide, by decide⟩, by decide, by decide⟩
    · exact ⟨⟨by decide, by decide⟩, by decide, by decide⟩
  have HZ5 := Lib.hid (And.intro hF5z hF5k)
  have chg : ∀ (t : Int) (X : World), FVa X (.slice (some ⟨g, 0, none⟩) 1 cap) [F5] → Calls Tryz.prog 20 #[.slice none 0 0, .slice (some ⟨g, 0, none⟩) 1 cap, .int .i64 t] X (ChgEnd X [] [F5] t) := fun t X h =>
    changes_any t none (some ⟨g, 0, none⟩) 0 cap [] [F5] X (nil_fva _) h (by decide) (by decide) (fun f hf => by cases hf) HZ5.out.1 (fun f hf => by cases hf) HZ5.out.2 (by decide)
  have HCH := Lib.hid chg
  clear hF5z hF5k chg
  have hfva8 : FVa w8 (.slice (some ⟨g, 0, none⟩) 1 cap) [F5] := HN8.out.1.fv.a
  have HC8 := Lib.hid (HCH.out 3 w8 hfva8)
  clear hfva8
  go_wp2_with fail
  refine HC8.out.mono ?_
  rintro e w9 ⟨⟨v9, ec9, rfl, h9⟩, hb9⟩
  have h9' : ec9 = 0 ∧ OwnD w9 w8.heap.size v9 [ch1, ch2] := by
    rcases h9 with ⟨_, _, _, rfl, hod⟩ | ⟨hno, _⟩ | ⟨_, _, hno, _⟩
    · rw [chg_few] at hod; exact ⟨rfl, hod⟩
    · rw [f5_may] at hno; exact absurd hno (by decide)
    · exact absurd hno (by decide)
  obtain ⟨rfl, hod⟩ := h9'
  obtain ⟨A9, c9, rfl, hs9, _, _, _, _⟩ := hod.form
  have HN9 : Hid (NmS BB (.slice (some ⟨g, 0, none⟩) 1 cap) sv (.slice F2 1 q2) A9 w9) := ⟨(HN8.out.next hb9).1, (HN8.out.next hb9).2.1, fun _ => hs9⟩
  have HB9 := Lib.hid (HB8.out.trans (hb9.mono HB8.out.size))
  have HA9 : Hid (A9 ≠ none) := fun h => by
    obtain ⟨b, o, e, _⟩ := hs9 (by simp)
    rw [h] at e; cases e
  simp only [List.length_cons, List.length_nil, Nat.zero_add]
  clear h9 hb9 hod hs9 HC8 HN8 HB8
  go_wp2_with fail
  refine (fewF_any _).mono ?_
  rintro e x10 ⟨A10, c10, rfl, _, hb10⟩
  have HN10 := Lib.hid (HN9.out.next hb10)
  have HB10 := Lib.hid (HB9.out.trans (hb10.mono HB9.out.size))
  clear hb10 HN9 HB9
  go_wp2_with fail
  refine (ofHist_any 0 0 0 false A10 _ c10 _).mono ?_
  rintro e x11 ⟨rfl, hb11⟩
  have HN11 := Lib.hid (HN10.out.next hb11)
  have HB11 := Lib.hid (HB10.out.trans (hb11.mono HB10.out.size))
  clear hb11 HN10 HB10
  have HDN : Hid (Calls Tryz.prog 12 #[.slice none 0 0, .agg #[.int .i64 (-1), .int .i64 0, .int .i64 0, .bool false, .bool false]] x11 (DtsEnd x11 (-1) 0 [])) := datomsF_any (-1) 0 0 false false none 0 [] x11 (fun h => absurd rfl h) (by decide)
  go_wp2_with fail
  refine HDN.out.mono ?_
  rintro e x12 ⟨⟨A12, c12, n12, ec12, rfl, h12⟩, hb12⟩
  have h12' : ec12 = 2 := by
    rcases h12 with ⟨hno, _⟩ | ⟨_, h, _⟩
    · exact absurd hno (by decide)
    · exact h
  obtain rfl := h12'
  have HN12 := Lib.hid (HN11.out.next hb12)
  have HB12 := Lib.hid (HB11.out.trans (hb12.mono HB11.out.size))
  have hfva12 : FVa x12 (.slice (some ⟨g, 0, none⟩) 1 cap) [F5] := HN12.out.1.fv.a
  have HC12 := Lib.hid (HCH.out 0 x12 hfva12)
  clear h12 hb12 HN11 HB11 HDN hfva12
  go_wp2_with fail
  refine HC12.out.mono ?_
  rintro e x13 ⟨⟨v13, ec13, rfl, h13⟩, hb13⟩
  have h13' : ec13 = 2 := by
    rcases h13 with ⟨_, _, hno, _⟩ | ⟨hno, _⟩ | ⟨_, _, _, h, _⟩
    · exact absurd hno (by decide)
    · rw [f5_may] at hno; exact absurd hno (by decide)
    · exact h
  obtain rfl := h13'
  have HN13 := Lib.hid (HN12.out.next hb13)
  have HB13 := Lib.hid (HB12.out.trans (hb13.mono HB12.out.size))
  clear h13 hb13 HC12 HN12 HB12
  go_wp2_with fail
  refine (one_any _).mono ?_
  rintro e x14 ⟨rfl, hb14⟩
  have HN14 := Lib.hid (HN13.out.next hb14)
  have HB14 := Lib.hid (HB13.out.trans (hb14.mono HB13.out.size))
  have hlit : FVa (x14.alloc (.cells #[.int .i64 1, .int .i64 1, .int .i64 1, .int .i64 1, .string ⟨#[]⟩, .slice none 0 0] 51)) (.slice (some ⟨x14.heap.size, 0, none⟩) 1 1) [F1] := by
    refine ⟨_, _, rfl, fun _ => ⟨x14.heap.size, 0, rfl, by simp, fun j f hf => ?_⟩, Nat.le_refl _, by decide⟩
    match j, hf with
    | 0, hf =>
      cases hf
      refine ⟨.slice none 0 0, ?_, ⟨none, 0, rfl, fun h => absurd rfl h, Nat.le_refl _, Nat.zero_le _⟩⟩
      unfold FcV
      simp only [World.cell?, heap_alloc_new]
      exact ⟨rfl, rfl, rfl, rfl, rfl, rfl⟩
    | j + 1, hf => cases hf
  have HAT : Hid (Calls Tryz.prog 21 #[.slice (some ⟨x14.heap.size, 0, none⟩) 1 1, .int .i64 0] (x14.alloc (.cells #[.int .i64 1, .int .i64 1, .int .i64 1, .int .i64 1, .string ⟨#[]⟩, .slice none 0 0] 51)) _) := at_any 0 _ 1 [F1] _ hlit (by decide) (fun f hf => by rw [List.mem_singleton.1 hf]; exact ⟨by decide, by decide⟩)
  have HLB : Hid (Below x14.heap.size x14 (x14.alloc (.cells #[.int .i64 1, .int .i64 1, .int .i64 1, .int .i64 1, .string ⟨#[]⟩, .slice none 0 0] 51))) := (Below.refl _ _).alloc (Nat.le_refl _) _
  clear hb14 HN13 HB13 hlit
  go_wp2_with fail
  refine HAT.out.mono ?_
  rintro e x15 ⟨⟨v15, ec15, rfl, h15⟩, hb15⟩
  have h15' : ec15 = 60 := by
    rcases h15 with ⟨hno, _⟩ | ⟨_, h, _⟩
    · rw [f1_no] at hno; cases hno
    · exact h
  obtain rfl := h15'
  have HN15 := Lib.hid ((HN14.out.next HLB.out).next hb15)
  have HB15 := Lib.hid (HB14.out.trans ((HLB.out.trans (hb15.mono HLB.out.size)).mono HB14.out.size))
  clear h15 hb15 HAT HLB HN14 HB14
  obtain ⟨ba, oa, sva, rfl, ca5, bs, os, cs, rfl, sa0, sa1⟩ : ∃ ba oa sva, F2 = some ⟨ba, oa, none⟩ ∧ x15.cell? ⟨ba, oa + 5, none⟩ = some sva ∧ ∃ bs os cs, sva = .slice (some ⟨bs, os, none⟩) 1 cs ∧ x15.cell? ⟨bs, os, none⟩ = some (.int .i64 0) ∧ x15.cell? ⟨bs, os + 1, none⟩ = some (.int .i64 10) := by
    rcases HN15.out.2.1 with h | h
    · cases h
    · obtain ⟨b, o, sv, e, _, hc, hsv⟩ := fv_at (c := q2) (fs := [F10]) h (j := 0) (by decide)
      simp only [Nat.zero_mul, Nat.add_zero, List.getElem_cons_zero] at hc hsv
      obtain ⟨As, cs, rfl, hsl, _⟩ := hsv
      obtain ⟨bs, os, rfl, _, hp⟩ := hsl (by unfold F10; simp)
      have hp0 := hp 0 (0, 10) rfl
      simp only [Nat.zero_mul, Nat.add_zero] at hp0
      exact ⟨b, o, _, e, hc.2.2.2.2.2, bs, os, cs, rfl, hp0.c0, hp0.c1⟩
  obtain ⟨b9, o9, rfl, HP9⟩ : ∃ b o, A9 = some ⟨b, o, none⟩ ∧ Hid (ChS b o x15) := by
    obtain ⟨b, o, e, hlt, hp⟩ := HN15.out.2.2 HA9.out (by simp)
    have h0 := hp 0 ch1 rfl
    have h1 := hp 1 ch2 rfl
    simp only [Nat.zero_mul, Nat.add_zero, Nat.one_mul] at h0 h1
    exact ⟨b, o, e, h0.c0, h0.c1, h0.c2, h0.c3, h0.c4, h0.c5, h0.c6, h0.c7, h0.c8, h1.c7, hlt⟩
  have hq := fun X => eqD_run ch1 ch1 X
  rw [decide_eq_true (rfl : ch1 = ch1)] at hq
  unfold ch1 at hq
  simp only at hq
  have HN := Lib.hid HN15.out
  have HB := Lib.hid HB15.out
  clear HN15 HB15 HA9 HCH HBB
  go_upto_region 12 with (fail)
  refine wp_region_held_drew (S := fun X => ChS b9 o9 X ∧ Below x15.heap.size x15 X) (by kernel_rfl) ⟨HP9.out, below_ind (Below.refl _ x15) 1⟩ (fun hHeld => ?_)
  refine takeV 0 (some 126) ((.int .i64 60)) rfl rfl (by kernel_rfl) (by kernel_rfl) (by kernel_rfl) (fun _ _ _ h => h) (by rfl) (by (intro _w _hSw; (try dsimp only at _hSw); go_simp)) (by assumption) ?_
  simp only [Act.put, List.setIfInBounds_toArray, List.set_cons_zero, List.set_cons_succ]
  refine takeV 1 (some 127) ((.bool true)) rfl rfl (by kernel_rfl) (by kernel_rfl) (by kernel_rfl) (fun _ _ _ h => h) (by rfl) (by (intro _w _hSw; (try dsimp only at _hSw); go_simp)) (by assumption) ?_
  simp only [Act.put, List.setIfInBounds_toArray, List.set_cons_zero, List.set_cons_succ]
  refine takeV 2 (some 128) ((.bool true)) rfl rfl (by kernel_rfl) (by kernel_rfl) (by kernel_rfl) (fun _ _ _ h => h) (by rfl) (by (intro _w _hSw; (try dsimp only at _hSw); go_simp)) (by assumption) ?_
  simp only [Act.put, List.setIfInBounds_toArray, List.set_cons_zero, List.set_cons_succ]
  refine takeV 3 (some 129) ((.int .i64 0)) rfl rfl (by kernel_rfl) (by kernel_rfl) (by kernel_rfl) (fun _ _ _ h => h) (by rfl) (by (intro _w _hSw; (try dsimp only at _hSw); go_simp)) (by assumption) ?_
  simp only [Act.put, List.setIfInBounds_toArray, List.set_cons_zero, List.set_cons_succ]
  refine takeV 4 (some 130) ((.bool true)) rfl rfl (by kernel_rfl) (by kernel_rfl) (by kernel_rfl) (fun _ _ _ h => h) (by rfl) (by (intro _w _hSw; (try dsimp only at _hSw); go_simp)) (by assumption) ?_
  simp only [Act.put, List.setIfInBounds_toArray, List.set_cons_zero, List.set_cons_succ]
  refine takeV 5 (some 131) ((.bool true)) rfl rfl (by kernel_rfl) (by kernel_rfl) (by kernel_rfl) (fun _ _ _ h => h) (by rfl) (by (intro _w _hSw; (try dsimp only at _hSw); go_simp)) (by assumption) ?_
  simp only [Act.put, List.setIfInBounds_toArray, List.set_cons_zero, List.set_cons_succ]
  refine takeV 6 (some 132) ((.bool true)) rfl rfl (by kernel_rfl) (by kernel_rfl) (by kernel_rfl) (fun _ _ _ h => h) (by rfl) (by (intro _w _hSw; (try dsimp only at _hSw); go_simp)) (by assumption) ?_
  simp only [Act.put, List.setIfInBounds_toArray, List.set_cons_zero, List.set_cons_succ]
  refine takeV 7 (some 133) ((.slice (some ⟨b9, o9, none⟩) 2 c9)) rfl rfl (by kernel_rfl) (by kernel_rfl) (by kernel_rfl) (fun _ _ _ h => h) (by rfl) (by (intro _w _hSw; (try dsimp only at _hSw); go_simp)) (by assumption) ?_
  simp only [Act.put, List.setIfInBounds_toArray, List.set_cons_zero, List.set_cons_succ]
  refine takeV 8 (some 134) ((.int .i64 2)) rfl rfl (by kernel_rfl) (by kernel_rfl) (by kernel_rfl) (fun _ _ _ h => h) (by rfl) (by (intro _w _hSw; (try dsimp only at _hSw); go_simp)) (by assumption) ?_
  simp only [Act.put, List.setIfInBounds_toArray, List.set_cons_zero, List.set_cons_succ]
  refine takeV 9 (some 135) ((.bool true)) rfl rfl (by kernel_rfl) (by kernel_rfl) (by kernel_rfl) (fun _ _ _ h => h) (by rfl) (by (intro _w _hSw; (try dsimp only at _hSw); go_simp)) (by assumption) ?_
  simp only [Act.put, List.setIfInBounds_toArray, List.set_cons_zero, List.set_cons_succ]
  refine takeV 10 (some 136) ((.bool true)) rfl rfl (by kernel_rfl) (by kernel_rfl) (by kernel_rfl) (fun _ _ _ h => h) (by rfl) (by (intro _w _hSw; (try dsimp only at _hSw); go_simp)) (by assumption) ?_
  simp only [Act.put, List.setIfInBounds_toArray, List.set_cons_zero, List.set_cons_succ]
  refine takeV 11 (some 137) ((.bool true)) rfl rfl (by kernel_rfl) (by kernel_rfl) (by kernel_rfl) (fun _ _ _ h => h) (by rfl) (by (intro _w _hSw; (try dsimp only at _hSw); go_simp)) (by assumption) ?_
  simp only [Act.put, List.setIfInBounds_toArray, List.set_cons_zero, List.set_cons_succ]
  refine takeV 12 (some 138) ((.slice (some ⟨b9, o9, none⟩) 2 c9)) rfl rfl (by kernel_rfl) (by kernel_rfl) (by kernel_rfl) (fun _ _ _ h => h) (by rfl) (by (intro _w _hSw; (try dsimp only at _hSw); go_simp)) (by assumption) ?_
  simp only [Act.put, List.setIfInBounds_toArray, List.set_cons_zero, List.set_cons_succ]
  refine takeV 13 (some 139) ((.pointer (some ⟨b9, o9, none⟩))) rfl rfl (by kernel_rfl) (by kernel_rfl) (by kernel_rfl) (fun _ _ _ h => h) (by rfl) (by (intro _w _hSw; (try dsimp only at _hSw); go_simp)) (by assumption) ?_
  simp only [Act.put, List.setIfInBounds_toArray, List.set_cons_zero, List.set_cons_succ]
  refine takeV 14 (some 140) ((.agg #[.int .i64 5, .int .i64 10, .int .i64 1, .int .i64 1, .string ⟨#[]⟩, .int .i64 3, .bool true, .int .i64 0, .int .i64 4])) rfl rfl (by kernel_rfl) (by kernel_rfl) (by kernel_rfl) (fun _ _ _ h => h) (by rfl) (by (intro _w hSw; have q0 := hSw.1.1; have q1 := hSw.1.2.1; have q2 := hSw.1.2.2.1; have q3 := hSw.1.2.2.2.1; have q4 := hSw.1.2.2.2.2.1; have q5 := hSw.1.2.2.2.2.2.1; have q6 := hSw.1.2.2.2.2.2.2.1; have q7 := hSw.1.2.2.2.2.2.2.2.1; have q8 := hSw.1.2.2.2.2.2.2.2.2.1; clear hSw; go_simp)) (by assumption) ?_
  simp only [Act.put, List.setIfInBounds_toArray, List.set_cons_zero, List.set_cons_succ]
  refine callV 15 rfl (by kernel_rfl) (by rfl) (fun K hK => ?_)
  go_simp
  go_at_call 19
  refine (one_any _).mono ?_
  rintro e x16 ⟨rfl, hb16⟩
  refine hK.out _ _ ⟨hHeld.1.next hb16, hHeld.2.trans (hb16.mono hHeld.2.size)⟩ (fun hHeld => ?_)
  clear hK K hb16
  try simp only [Act.put, List.setIfInBounds_toArray, List.set_cons_zero, List.set_cons_succ]
  refine takeV 16 (some 142) ((.agg #[.int .i64 5, .int .i64 10, .int .i64 1, .int .i64 1, .string ⟨#[]⟩, .int .i64 3, .bool true, .int .i64 0, .int .i64 4])) rfl rfl (by kernel_rfl) (by kernel_rfl) (by kernel_rfl) (fun _ _ _ h => h) (by rfl) (by (intro _w _hSw; (try dsimp only at _hSw); go_simp)) (by assumption) ?_
  simp only [Act.put, List.setIfInBounds_toArray, List.set_cons_zero, List.set_cons_succ]
  refine takeV 17 (some 143) ((.bool true)) rfl rfl (by kernel_rfl) (by kernel_rfl) (by kernel_rfl) (fun _ _ _ h => h) (by rfl) (by (intro _w _hSw; (try dsimp only at _hSw); go_simp)) (by assumption) ?_
  simp only [Act.put, List.setIfInBounds_toArray, List.set_cons_zero, List.set_cons_succ]
  refine takeV 18 (some 144) ((.bool true)) rfl rfl (by kernel_rfl) (by kernel_rfl) (by kernel_rfl) (fun _ _ _ h => h) (by rfl) (by (intro _w _hSw; (try dsimp only at _hSw); go_simp)) (by assumption) ?_
  simp only [Act.put, List.setIfInBounds_toArray, List.set_cons_zero, List.set_cons_succ]
  refine takeV 19 (some 145) ((.bool true)) rfl rfl (by kernel_rfl) (by kernel_rfl) (by kernel_rfl) (fun _ _ _ h => h) (by rfl) (by (intro _w _hSw; (try dsimp only at _hSw); go_simp)) (by assumption) ?_
  simp only [Act.put, List.setIfInBounds_toArray, List.set_cons_zero, List.set_cons_succ]
  refine takeV 20 (some 146) ((.slice (some ⟨b9, o9, none⟩) 2 c9)) rfl rfl (by kernel_rfl) (by kernel_rfl) (by kernel_rfl) (fun _ _ _ h => h) (by rfl) (by (intro _w _hSw; (try dsimp only at _hSw); go_simp)) (by assumption) ?_
  simp only [Act.put, List.setIfInBounds_toArray, List.set_cons_zero, List.set_cons_succ]
  refine takeV 21 (some 147) ((.pointer (some ⟨b9, o9 + 9, none⟩))) rfl rfl (by kernel_rfl) (by kernel_rfl) (by kernel_rfl) (fun _ _ _ h => h) (by rfl) (by (intro _w _hSw; (try dsimp only at _hSw); go_simp)) (by assumption) ?_
  simp only [Act.put, List.setIfInBounds_toArray, List.set_cons_zero, List.set_cons_succ]
  refine takeV 22 (some 148) ((.pointer (some ⟨b9, o9 + 9 + 7, none⟩))) rfl rfl (by kernel_rfl) (by kernel_rfl) (by kernel_rfl) (fun _ _ _ h => h) (by rfl) (by (intro _w _hSw; (try dsimp only at _hSw); go_simp)) (by assumption) ?_
  simp only [Act.put, List.setIfInBounds_toArray, List.set_cons_zero, List.set_cons_succ]
  refine takeV 23 (some 149) ((.int .i64 6)) rfl rfl (by kernel_rfl) (by kernel_rfl) (by kernel_rfl) (fun _ _ _ h => h) (by rfl) (by (intro _w hSw; have q0 := hSw.1.2.2.2.2.2.2.2.2.2.1; clear hSw; go_simp)) (by assumption) ?_
  simp only [Act.put, List.setIfInBounds_toArray, List.set_cons_zero, List.set_cons_succ]
  refine takeV 24 (some 150) ((.bool true)) rfl rfl (by kernel_rfl) (by kernel_rfl) (by kernel_rfl) (fun _ _ _ h => h) (by rfl) (by (intro _w _hSw; (try dsimp only at _hSw); go_simp)) (by assumption) ?_
  simp only [Act.put, List.setIfInBounds_toArray, List.set_cons_zero, List.set_cons_succ]
  refine takeV 25 (some 151) ((.bool true)) rfl rfl (by kernel_rfl) (by kernel_rfl) (by kernel_rfl) (fun _ _ _ h => h) (by rfl) (by (intro _w _hSw; (try dsimp only at _hSw); go_simp)) (by assumption) ?_
  simp only [Act.put, List.setIfInBounds_toArray, List.set_cons_zero, List.set_cons_succ]
  refine takeV 26 (some 152) ((.bool true)) rfl rfl (by kernel_rfl) (by kernel_rfl) (by kernel_rfl) (fun _ _ _ h => h) (by rfl) (by (intro _w _hSw; (try dsimp only at _hSw); go_simp)) (by assumption) ?_
  simp only [Act.put, List.setIfInBounds_toArray, List.set_cons_zero, List.set_cons_succ]
  refine takeV 27 (some 153) ((.int .i64 2)) rfl rfl (by kernel_rfl) (by kernel_rfl) (by kernel_rfl) (fun _ _ _ h => h) (by rfl) (by (intro _w _hSw; (try dsimp only at _hSw); go_simp)) (by assumption) ?_
  simp only [Act.put, List.setIfInBounds_toArray, List.set_cons_zero, List.set_cons_succ]
  refine takeV 28 (some 154) ((.bool true)) rfl rfl (by kernel_rfl) (by kernel_rfl) (by kernel_rfl) (fun _ _ _ h => h) (by rfl) (by (intro _w _hSw; (try dsimp only at _hSw); go_simp)) (by assumption) ?_
  simp only [Act.put, List.setIfInBounds_toArray, List.set_cons_zero, List.set_cons_succ]
  refine takeV 29 (some 155) ((.bool true)) rfl rfl (by kernel_rfl) (by kernel_rfl) (by kernel_rfl) (fun _ _ _ h => h) (by rfl) (by (intro _w _hSw; (try dsimp only at _hSw); go_simp)) (by assumption) ?_
  simp only [Act.put, List.setIfInBounds_toArray, List.set_cons_zero, List.set_cons_succ]
  refine takeV 30 (some 156) ((.bool true)) rfl rfl (by kernel_rfl) (by kernel_rfl) (by kernel_rfl) (fun _ _ _ h => h) (by rfl) (by (intro _w _hSw; (try dsimp only at _hSw); go_simp)) (by assumption) ?_
  simp only [Act.put, List.setIfInBounds_toArray, List.set_cons_zero, List.set_cons_succ]
  refine takeV 31 (some 157) ((.int .i64 2)) rfl rfl (by kernel_rfl) (by kernel_rfl) (by kernel_rfl) (fun _ _ _ h => h) (by rfl) (by (intro _w _hSw; (try dsimp only at _hSw); go_simp)) (by assumption) ?_
  simp only [Act.put, List.setIfInBounds_toArray, List.set_cons_zero, List.set_cons_succ]
  refine takeV 32 (some 158) ((.bool true)) rfl rfl (by kernel_rfl) (by kernel_rfl) (by kernel_rfl) (fun _ _ _ h => h) (by rfl) (by (intro _w _hSw; (try dsimp only at _hSw); go_simp)) (by assumption) ?_
  simp only [Act.put, List.setIfInBounds_toArray, List.set_cons_zero, List.set_cons_succ]
  refine takeV 33 (some 159) ((.bool true)) rfl rfl (by kernel_rfl) (by kernel_rfl) (by kernel_rfl) (fun _ _ _ h => h) (by rfl) (by (intro _w _hSw; (try dsimp only at _hSw); go_simp)) (by assumption) ?_
  simp only [Act.put, List.setIfInBounds_toArray, List.set_cons_zero, List.set_cons_succ]
  refine takeV 34 (some 160) ((.bool true)) rfl rfl (by kernel_rfl) (by kernel_rfl) (by kernel_rfl) (fun _ _ _ h => h) (by rfl) (by (intro _w _hSw; (try dsimp only at _hSw); go_simp)) (by assumption) ?_
  simp only [Act.put, List.setIfInBounds_toArray, List.set_cons_zero, List.set_cons_succ]
  refine takeV 35 (some 161) ((.int .i64 2)) rfl rfl (by kernel_rfl) (by kernel_rfl) (by kernel_rfl) (fun _ _ _ h => h) (by rfl) (by (intro _w _hSw; (try dsimp only at _hSw); go_simp)) (by assumption) ?_
  simp only [Act.put, List.setIfInBounds_toArray, List.set_cons_zero, List.set_cons_succ]
  refine takeV 36 (some 162) ((.bool true)) rfl rfl (by kernel_rfl) (by kernel_rfl) (by kernel_rfl) (fun _ _ _ h => h) (by rfl) (by (intro _w _hSw; (try dsimp only at _hSw); go_simp)) (by assumption) ?_
  simp only [Act.put, List.setIfInBounds_toArray, List.set_cons_zero, List.set_cons_succ]
  refine takeV 37 (some 163) ((.bool true)) rfl rfl (by kernel_rfl) (by kernel_rfl) (by kernel_rfl) (fun _ _ _ h => h) (by rfl) (by (intro _w _hSw; (try dsimp only at _hSw); go_simp)) (by assumption) ?_
  simp only [Act.put, List.setIfInBounds_toArray, List.set_cons_zero, List.set_cons_succ]
  refine takeV 38 (some 164) ((.bool true)) rfl rfl (by kernel_rfl) (by kernel_rfl) (by kernel_rfl) (fun _ _ _ h => h) (by rfl) (by (intro _w _hSw; (try dsimp only at _hSw); go_simp)) (by assumption) ?_
  simp only [Act.put, List.setIfInBounds_toArray, List.set_cons_zero, List.set_cons_succ]
  refine takeV 39 (some 165) ((.int .i64 60)) rfl rfl (by kernel_rfl) (by kernel_rfl) (by kernel_rfl) (fun _ _ _ h => h) (by rfl) (by (intro _w _hSw; (try dsimp only at _hSw); go_simp)) (by assumption) ?_
  simp only [Act.put, List.setIfInBounds_toArray, List.set_cons_zero, List.set_cons_succ]
  refine takeV 40 (some 166) ((.bool true)) rfl rfl (by kernel_rfl) (by kernel_rfl) (by kernel_rfl) (fun _ _ _ h => h) (by rfl) (by (intro _w _hSw; (try dsimp only at _hSw); go_simp)) (by assumption) ?_
  simp only [Act.put, List.setIfInBounds_toArray, List.set_cons_zero, List.set_cons_succ]
  refine takeV 41 (some 167) ((.bool true)) rfl rfl (by kernel_rfl) (by kernel_rfl) (by kernel_rfl) (fun _ _ _ h => h) (by rfl) (by (intro _w _hSw; (try dsimp only at _hSw); go_simp)) (by assumption) ?_
  simp only [Act.put, List.setIfInBounds_toArray, List.set_cons_zero, List.set_cons_succ]
  refine takeV 42 (some 22) ((.bool true)) rfl rfl (by kernel_rfl) (by kernel_rfl) (by kernel_rfl) (fun _ _ _ h => h) (by rfl) (by (intro _w _hSw; (try dsimp only at _hSw); go_simp)) (by assumption) ?_
  simp only [Act.put, List.setIfInBounds_toArray, List.set_cons_zero, List.set_cons_succ]
  refine wpAnyH_done (by kernel_rfl) ?_ _
  have HX16 := Lib.hid hHeld.2
  clear hHeld HP9 ca5 sa0 sa1
  have HN16 := Lib.hid (HN.out.next HX16.out)
  have HB16 := Lib.hid (HB.out.trans (HX16.out.mono HB.out.size))
  clear HX16 HN HB
  go_wp2_with fail
  refine (fAlive_any _).mono ?_
  rintro e x17 ⟨rfl, hb17⟩
  have HN17 := Lib.hid (HN16.out.next hb17)
  have HB17 := Lib.hid (HB16.out.trans (hb17.mono HB16.out.size))
  have hfva17 : FVa x17 (.slice (some ⟨g, 0, none⟩) 1 cap) [F5] := HN17.out.1.fv.a
  have hck : Calls Tryz.prog 23 #[.slice (some ⟨g, 0, none⟩) 1 cap] x17 fun e w' => e = .returned (.int .i64 (if mayFs [F5] = true then 0 else 60)) ∧ Below x17.heap.size x17 w' := checkF_any (some ⟨g, 0, none⟩) cap [F5] x17 hfva17 (by decide) HZ5.out.1
  rw [f5_may] at hck
  have HCK := Lib.hid hck
  clear hb17 hfva17 hck HN16 HB16
  go_wp2_with fail
  refine HCK.out.mono ?_
  rintro e x18 ⟨rfl, hb18⟩
  have HN18 := Lib.hid (HN17.out.next hb18)
  have HB18 := Lib.hid (HB17.out.trans (hb18.mono HB17.out.size))
  clear hb18 HCK HN17 HB17
  have HNW : Hid (∀ ad, some (⟨g, 0, none⟩ : Addr) = some ad → ∀ j u, ([(F5, sv)].flatMap cellsF)[j]? = some u → x18.cell? (ad.add j) = some u) := fun ad h j u hu => by
    cases h
    exact World.ownsRow.cells HN18.out.1.1 (g := g) rfl j u hu
  have HONE : Hid (∀ u ∈ [(F5, sv)].flatMap cellsF, u.oneCell' = true) := fun u hu => by
    obtain ⟨A, c, e, _⟩ := HN18.out.1.2 (F5, sv) (by simp)
    have e' : sv = .slice A F5.l.length c := e
    exact cellsF_one ⟨A, _, c, e'⟩ u (by simpa using hu)
  have HBX : Hid (BB ≤ x18.heap.size) := Nat.le_trans (Nat.le_trans HGL.out (Nat.le_of_lt (World.ownsRow.lt HN18.out.1.1 g rfl).2)) (Nat.le_refl _)
  go_wp2_with (at_builtin; go_loud (refine wpList_wanted (by rfl) ?_; refine wpList_append_any rfl _ _ 26 rfl BB 51 iF (.agg #[.int .i64 0, .int .i64 0, .int .i64 0, .int .i64 0, .string ⟨#[]⟩, .slice none 0 0]) 6 72 Tryz.underlying26 hiF hF0 hF1 hF2 rfl (by decide) _ _ _ rfl HN18.out.1.1 (some ⟨g, 0, none⟩) 1 cap ([(F5, sv)].flatMap cellsF) rfl rfl (fun h => by cases h) HNW.out HONE.out (by show 2 ≤ maxLen; omega) (by show 144 ≤ 140737488355328; decide) HBX.out ?_); intro v' x19 hown' hgrow; have hw19 : OwnF x19 BB v' ([(F5, sv)] ++ [(F5, sv)]) := ⟨by simpa using hown', fun p hp => (HN18.out.1.2 p (by simpa using hp)).other HN18.out.1.1 (by decide) hgrow⟩; have HFV : Hid (FVa x19 v' ([F5] ++ [F5])) := hw19.fv.a; have HB19 := Lib.hid (HB18.out.trans ((Below.refl w.heap.size x18).grown hgrow HB18.out.size (fun k hk => by cases hk; exact Nat.le_trans HWB.out HGL.out))); (obtain ⟨g', cap', rfl⟩ := ownsRow_succ' (n := 1) hown'); clear hown' hgrow hw19)
  have hck2 : Calls Tryz.prog 23 #[.slice (some ⟨g', 0, none⟩) (1 + 1) cap'] x19 fun e w' => e = .returned (.int .i64 (if mayFs ([F5] ++ [F5]) = true then 0 else 60)) ∧ Below x19.heap.size x19 w' := checkF_any (some ⟨g', 0, none⟩) cap' ([F5] ++ [F5]) x19 HFV.out (by decide) (fun f hf => HZ5.out.1 f (by simpa using hf))
  rw [f55_no] at hck2
  refine hck2.mono ?_
  rintro e x20 ⟨rfl, hb20⟩
  have HB20 := Lib.hid (HB19.out.trans (hb20.mono HB19.out.size))
  clear hb20 hck2
  go_wp2
  go_ret
  exact ⟨rfl, HB20.out⟩
end Go.Proofs.YthhkabbgghepbaaGreat
