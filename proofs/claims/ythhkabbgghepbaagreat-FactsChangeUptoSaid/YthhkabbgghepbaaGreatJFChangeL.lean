import Derived.Test.YthhkabbgghepbaaGreatJFLeast
import Derived.Test.YthhkabbgghepbaaGreatJVSl
import Derived.Test.YthhkabbgghepbaaGreatJFOrderL
import Derived.BigQuiet
import Derived.Test.YthhkabbgghepbaaGreatJSSame
import Derived.Test.YthhkabbgghepbaaGreatJDComp
import Derived.Test.YthhkabbgghepbaaGreatJRegion
import Derived.Test.YthhkabbgghepbaaGreatJDSorted
import Derived.Test.YthhkabbgghepbaaGreatJFTurn
/-
  CONTRACTS: together and Changes.
-/
namespace Go.Proofs.YthhkabbgghepbaaGreat
open Go.RowKit Go.Shelf

theorem minusL_len (a b : List Sp) : (minusL a b).length ≤ a.length + b.length := by
  by_cases hx : ∃ r, SetL r ∧ ∀ t, Inn r t ↔ Inn a t ∧ ¬ Inn b t
  · obtain ⟨r, r1, r2⟩ := hx
    have e1 := minusL_is r1 r2
    have := minusL_few (a := a) (b := b) (by rw [e1]; exact r1) (by rw [e1]; exact r2)
    omega
  · unfold minusL
    rw [dif_neg hx]
    exact Nat.zero_le _
theorem chgT_len (t : Int) (q : Tri × List Sp × List Sp) : (chgT t q).length ≤ 2 * (q.2.1.length + q.2.2.length) := by
  unfold chgT
  rw [List.length_append, List.length_map, List.length_map]
  have h1 := minusL_len q.2.2 q.2.1
  have h2 := minusL_len q.2.1 q.2.2
  omega
/-- facts whose spans are sets of instants -/
def GoodF (l : List FactP) : Prop := ∀ f ∈ l, SetL f.l ∧ ∀ q ∈ f.l, SpOk q
theorem goodF_take {l r : List FactP} (h : GoodF l) (hs : r.Sublist l) (p : Tri) : SetL (takeS r p) ∧ ∀ q ∈ takeS r p, SpOk q := by
  rcases takeS_cases r p with e | ⟨f, hf, e, _⟩
  · rw [e]; exact ⟨setL_nil, fun q hq => by cases hq⟩
  · rw [e]; exact h f (hs.subset hf)
theorem takeS_len (l : List FactP) (p : Tri) : (takeS l p).length ≤ sumS l := by have := sumS_take l p; omega
def sayV (Bl Bt : Nat) : Value := .func (.func 48) #[] #[.pointer (some ⟨Bl, 0, none⟩), .pointer (some ⟨Bt, 0, none⟩)]
/-- the boxes of Changes, and what has been said -/
structure ChgW (w : World) (t : Int) (Bl Bt Bs : Nat) (ds : List Dat) (W : World) : Prop where
  row : ∃ v, Boxed W Bl 22 v ∧ OwnD W w.heap.size v ds
  t : Boxed W Bt 2 (.int .i64 t)
  say : Boxed W Bs 96 (sayV Bl Bt)
  below : Below w.heap.size w W
theorem ChgW.next {w W W' : World} {t : Int} {Bl Bt Bs : Nat} {ds : List Dat} (h : ChgW w t Bl Bt Bs ds W) (hb : Below W.heap.size W W') : ChgW w t Bl Bt Bs ds W' := by
  obtain ⟨v, h1, h2⟩ := h.row
  exact ⟨⟨v, (hb.block _ h1.lt).trans h1, h2.next hb⟩, (hb.block _ h.t.lt).trans h.t, (hb.block _ h.say.lt).trans h.say, h.below.trans (hb.mono h.below.size)⟩
theorem ChgW.keepX {w W W' : World} {t : Int} {Bl Bt Bs Bx : Nat} {ds : List Dat} {u : Value} (h : ChgW w t Bl Bt Bs ds W) (hx : Boxed W Bx 26 u) (hk : KeepX Bx W W') (hb : Below w.heap.size W W') (h1 : Bl ≠ Bx) (h2 : Bt ≠ Bx) (h3 : Bs ≠ Bx) : ChgW w t Bl Bt Bs ds W' := by
  obtain ⟨v, g1, g2⟩ := h.row
  exact ⟨⟨v, hk.boxed g1 h1, hk.ownD g2 hx (by decide) hb.os hb.tape hb.output⟩, hk.boxed h.t h2, hk.boxed h.say h3, h.below.trans hb⟩
/-- together, on its way -/
def TogI (w : World) (t : Int) (Bl Bt Bs b3 b4 : Nat) (a b : List FactP) (all : List Dat) (n : Nat) (W : World) : Prop :=
  ∃ (ra rb : List FactP) (A B : Option Addr) (c d : Nat) (ds : List Dat), n = ra.length + rb.length ∧ FVa w (.slice A ra.length c) ra ∧ FVa w (.slice B rb.length d) rb ∧ Boxed W b3 26 (.slice A ra.length c) ∧ Boxed W b4 26 (.slice B rb.length d) ∧
    ChgW w t Bl Bt Bs ds W ∧ all = ds ++ chgL ra rb t ∧ ra.Sublist a ∧ rb.Sublist b ∧ ds.length + 2 * (sumS ra + sumS rb) ≤ 2 * (sumS a + sumS b)
theorem sumS_sub {r l : List FactP} (h : r.Sublist l) : sumS r ≤ sumS l := by
  induction h with
  | slnil => exact Nat.le_refl _
  | cons x _ ih => unfold sumS at ih ⊢; simp; omega
  | cons_cons x _ ih => unfold sumS at ih ⊢; simp; omega
set_option maxRecDepth 100000 in
set_option maxHeartbeats 4000000 in
theorem together_any (t : Int) (Bl Bt Bs : Nat) (A B : Option Addr) (c d : Nat) (a b : List FactP) (ds : List Dat) (w W : World) (ha : FVa w (.slice A a.length c) a) (hb : FVa w (.slice B b.length d) b) (hw : ChgW w t Bl Bt Bs ds W) (hd : ds = [])
    (hBl : w.heap.size ≤ Bl) (hne : Bt ≠ Bl) (hns : Bs ≠ Bl) (h1 : Bl < W.heap.size) (h2 : Bt < W.heap.size) (h3 : Bs < W.heap.size) (hga : GoodF a) (hgb : GoodF b) (hs : sumS a + sumS b ≤ 5000) :
    Calls Tryz.prog 50 #[.slice A a.length c, .slice B b.length d, .func (.func 51) #[] #[.pointer (some ⟨Bs, 0, none⟩)]] W fun en W' => en = .returned (.tuple #[]) ∧ ChgW w t Bl Bt Bs (chgL a b t) W' := by
  obtain ⟨w0, hw0⟩ : ∃ w0, (W.alloc (.cells #[.slice A a.length c] 26)).alloc (.cells #[.slice B b.length d] 26) = w0 := ⟨_, rfl⟩
  have hb0 : Below W.heap.size W w0 := by rw [← hw0]; exact ((Below.refl _ W).alloc (Nat.le_refl _) _).alloc (by simp) _
  have HX3 : Hid (Boxed w0 W.heap.size 26 (.slice A a.length c)) := by rw [← hw0]; exact (Boxed.new W 26 (.slice A a.length c)).alloc _
  have HX4 : Hid (Boxed w0 (W.heap.size + 1) 26 (.slice B b.length d)) := by
    rw [← hw0]
    have := Boxed.new (W.alloc (.cells #[.slice A a.length c] 26)) 26 (.slice B b.length d)
    rwa [World.size_alloc] at this
  have HW0 := Lib.hid (hw.next hb0)
  have HAB := Lib.hid (And.intro ha hb)
  have HGA := Lib.hid hga
  have HGB := Lib.hid hgb
  have HWB : Hid (w.heap.size ≤ W.heap.size) := hw.below.size
  subst hd
  clear ha hb hw hb0 hga hgb
  obtain ⟨b3, hb3⟩ : ∃ b, b = W.heap.size := ⟨_, rfl⟩
  obtain ⟨b4, hb4⟩ : ∃ b, b = W.heap.size + 1 := ⟨_, rfl⟩
  rw [← hb3] at HX3
  rw [← hb4] at HX4
  have n1 : Bl ≠ b3 := by omega
  have n2 : Bt ≠ b3 := by omega
  have n3 : Bs ≠ b3 := by omega
  have n4 : Bl ≠ b4 := by omega
  have n5 : Bt ≠ b4 := by omega
  have n6 : Bs ≠ b4 := by omega
  have n7 : b3 ≠ b4 := by omega
  have n8 : w.heap.size ≤ b3 := by have := HWB.out; omega
  have n9 : w.heap.size ≤ b4 := by have := HWB.out; omega
  go_enter Tryz.func50, Tryz.ntmps50
  go_upto_region 1 with (fail)
  try rw [hw0]
  clear hw0
  rw [← hb4, ← hb3]
  clear hb3 hb4
  go_wp2
  go_loopg [7] (a.length + b.length) (fun g _ wr => Hid (TogI w t Bl Bt Bs b3 b4 a b (chgL a b t) g wr))
  case atStart => exact ⟨a, b, A, B, c, d, [], rfl, HAB.out.1, HAB.out.2, HX3.out, HX4.out, HW0.out, rfl, List.Sublist.refl _, List.Sublist.refl _, by simp⟩
  case round =>
    obtain ⟨ra, rb, A', B', c', d', ds, rfl, hfa, hfb, hx3, hx4, hcw, hall, hsa, hsb, hlen⟩ := hrel.out
    have z3 := hx3.cell
    have z4 := hx4.cell
    have HAL := Lib.hid hall
    have HCW := Lib.hid hcw
    have HFA := Lib.hid hfa
    have HFB := Lib.hid hfb
    have HXX := Lib.hid (And.intro hx3 hx4)
    have HSA := Lib.hid hsa
    have HSB := Lib.hid hsb
    have q1 := sumS_sub hsa
    have q2 := sumS_sub hsb
    clear hrel hall hcw hfa hfb hx3 hx4 hsa hsb
    by_cases hemp : ra = [] ∧ rb = []
    · obtain ⟨rfl, rfl⟩ := hemp
      simp only [List.length_nil] at z3 z4
      have HE : Hid (chgL a b t = ds) := by show _ = _; rw [HAL.out, chgL_nil, List.append_nil]
      go_wp2
      go_end0
      exact ⟨rfl, by rw [HE.out]; exact HCW.out⟩
    · obtain ⟨⟨e, a1, k, m, s⟩, hp⟩ : ∃ x, leastT ra rb = x := ⟨_, rfl⟩
      have hlst := least_any A' B' c' d' ra rb wr (HFA.out.next HCW.out.below) (HFB.out.next HCW.out.below) hemp
      rw [hp] at hlst
      have HLS := Lib.hid hlst
      have hstep := chgL_step hemp t
      have hless := tog_less hemp
      rw [hp] at hstep hless
      have HST := Lib.hid hstep
      have HLE := Lib.hid hless
      have HPOS : Hid (0 < ra.length ∨ 0 < rb.length) := by
        show _ ∨ _
        by_cases h : ra = []
        · exact .inr (List.length_pos_iff.2 fun h' => hemp ⟨h, h'⟩)
        · exact .inl (List.length_pos_iff.2 h)
      clear hlst hstep hless hemp hp
      have key : ∀ (Q : Prop), (0 < ra.length → Q) → (¬ 0 < ra.length → 0 < rb.length → Q) → Q := fun Q h1 h2 => by
        by_cases h : 0 < ra.length
        · exact h1 h
        · exact h2 h (HPOS.out.resolve_left h)
      refine key _ (fun hra => ?_) (fun hra hrb => ?_)
      · have da : decide ((0 : Int) < (ra.length : Int)) = true := decide_eq_true (by omega)
        go_wp2_with fail
        refine HLS.out.mono ?_
        rintro en w1 ⟨rfl, hb1⟩
        have hcw1 := HCW.out.next hb1
        obtain ⟨hx3, hx4⟩ := HXX.out
        have hx31 : Boxed w1 b3 26 (.slice A' ra.length c') := (hb1.block _ hx3.lt).trans hx3
        have hx41 : Boxed w1 b4 26 (.slice B' rb.length d') := (hb1.block _ hx4.lt).trans hx4
        obtain ⟨w2, hw2⟩ : ∃ w2, w1.alloc (.cells #[.int .i64 e, .int .i64 a1, .int .i64 k, .int .i64 m, .string s] 71) = w2 := ⟨_, rfl⟩
        have hb2 : Below w1.heap.size w1 w2 := by rw [← hw2]; exact (Below.refl _ w1).alloc (Nat.le_refl _) _
        have HTR : Hid (TrAt w2 w1.heap.size e a1 k m s) := by rw [← hw2]; exact trAt_new w1 e a1 k m s
        have HC2 := Lib.hid ((hcw1.next hb2).next (below_ind (Below.refl _ w2) 1))
        have hx32 : Boxed w2 b3 26 (.slice A' ra.length c') := (hb2.block _ hx31.lt).trans hx31
        have hx42 : Boxed w2 b4 26 (.slice B' rb.length d') := (hb2.block _ hx41.lt).trans hx41
        have m3 : w1.heap.size ≠ b3 := by have := hx31.lt; omega
        have m4 : w1.heap.size ≠ b4 := by have := hx41.lt; omega
        have HNL : Hid (w1.heap.size ≠ Bl) := by obtain ⟨v, g1, _⟩ := hcw1.row; have := g1.lt; show _ ≠ _; omega
        have HX := Lib.hid (And.intro hx32 hx42)
        clear hcw1 hx3 hx4 hx31 hx41 hx32 hx42 hb1 hb2 z3 z4
        go_upto_region 4 with (fail)
        try rw [hw2]
        clear hw2
        refine wp_region_held_drew (S := fun X => TrAt X w1.heap.size e a1 k m s) (by kernel_rfl) HTR.out (fun hHeld => ?_)
        refine takeV 0 (some 19) ((.func (.func 51) #[] #[.pointer (some ⟨Bs, 0, none⟩)])) rfl rfl (by kernel_rfl) (by kernel_rfl) (by kernel_rfl) (fun _ _ _ h => h) (by rfl) (by (intro _w _hSw; (try dsimp only at _hSw); go_simp)) (by assumption) ?_
        simp only [Act.put, List.setIfInBounds_toArray, List.set_cons_zero, List.set_cons_succ]
        refine takeV 1 (some 20) ((.agg #[.int .i64 e, .int .i64 a1, .int .i64 k, .int .i64 m, .string s])) rfl rfl (by kernel_rfl) (by kernel_rfl) (by kernel_rfl) (fun _ _ _ h => h) (by rfl) (by (intro _w hSw; have q0 := hSw.k0; have q1 := hSw.k1; have q2 := hSw.k2; have q3 := hSw.k3; have q4 := hSw.k4; clear hSw; go_simp)) (by assumption) ?_
        simp only [Act.put, List.setIfInBounds_toArray, List.set_cons_zero, List.set_cons_succ]
        refine takeV 2 (some 21) ((.func (.func 77) #[] #[])) rfl rfl (by kernel_rfl) (by kernel_rfl) (by kernel_rfl) (fun _ _ _ h => h) (by rfl) (by (intro _w _hSw; (try dsimp only at _hSw); go_simp)) (by assumption) ?_
        simp only [Act.put, List.setIfInBounds_toArray, List.set_cons_zero, List.set_cons_succ]
        refine takeV 3 (some 22) ((.agg #[.int .i64 e, .int .i64 a1, .int .i64 k, .int .i64 m, .string s])) rfl rfl (by kernel_rfl) (by kernel_rfl) (by kernel_rfl) (fun _ _ _ h => h) (by rfl) (by (intro _w hSw; have q0 := hSw.k0; have q1 := hSw.k1; have q2 := hSw.k2; have q3 := hSw.k3; have q4 := hSw.k4; clear hSw; go_simp)) (by assumption) ?_
        simp only [Act.put, List.setIfInBounds_toArray, List.set_cons_zero, List.set_cons_succ]
        refine takeV 5 (some 24) ((.func (.func 77) #[] #[])) rfl rfl (by kernel_rfl) (by kernel_rfl) (by kernel_rfl) (fun _ _ _ h => h) (by rfl) (by (intro _w _hSw; (try dsimp only at _hSw); go_simp)) (by assumption) ?_
        simp only [Act.put, List.setIfInBounds_toArray, List.set_cons_zero, List.set_cons_succ]
        refine takeV 6 (some 25) ((.agg #[.int .i64 e, .int .i64 a1, .int .i64 k, .int .i64 m, .string s])) rfl rfl (by kernel_rfl) (by kernel_rfl) (by kernel_rfl) (fun _ _ _ h => h) (by rfl) (by (intro _w hSw; have q0 := hSw.k0; have q1 := hSw.k1; have q2 := hSw.k2; have q3 := hSw.k3; have q4 := hSw.k4; clear hSw; go_simp)) (by assumption) ?_
        simp only [Act.put, List.setIfInBounds_toArray, List.set_cons_zero, List.set_cons_succ]
        refine callV 4 rfl (by kernel_rfl) (by rfl) (fun K hK => ?_)
        go_simp
        go_at_call 77
        refine (take_any e a1 k m s A' c' ra w _ b3 HFA.out HC2.out.below n8 HX.out.1).mono ?_
        rintro en x1 ⟨u1, A5, c5, rfl, hsv1, hfa1, hbx1, hkx1, hbl1⟩
        refine hK.out _ _ (hkx1.trAt hHeld m3) (fun hHeld => ?_)
        clear hK K
        obtain ⟨U1, j1, rfl, _⟩ := id hsv1
        have HC3 := Lib.hid (HC2.out.keepX HX.out.1 hkx1 hbl1 n1 n2 n3)
        have hx43 : Boxed x1 b4 26 (.slice B' rb.length d') := hkx1.boxed HX.out.2 n7.symm
        have HX3' := Lib.hid (And.intro hbx1 hx43)
        have HS1 := Lib.hid hsv1
        have HFA1 := Lib.hid hfa1
        clear hsv1 hfa1 hbx1 hkx1 hbl1 hx43 HX HC2
        try simp only [Act.put, List.setIfInBounds_toArray, List.set_cons_zero, List.set_cons_succ]
        refine callV 7 rfl (by kernel_rfl) (by rfl) (fun K hK => ?_)
        go_simp
        go_at_call 77
        refine (take_any e a1 k m s B' d' rb w _ b4 HFB.out HC3.out.below n9 HX3'.out.2).mono ?_
        rintro en x2 ⟨u2, A6, c6, rfl, hsv2, hfb2, hbx2, hkx2, hbl2⟩
        refine hK.out _ _ (hkx2.trAt hHeld m4) (fun hHeld => ?_)
        clear hK K
        obtain ⟨U2, j2, rfl, _⟩ := id hsv2
        have HC4 := Lib.hid (HC3.out.keepX HX3'.out.2 hkx2 hbl2 n4 n5 n6)
        have hx34 : Boxed x2 b3 26 (.slice A5 (takeR ra (e, a1, k, m, s)).length c5) := hkx2.boxed HX3'.out.1 n7
        have HX4' := Lib.hid (And.intro hx34 hbx2)
        have HS2 := Lib.hid hsv2
        have HFB2 := Lib.hid hfb2
        clear hsv2 hfb2 hbx2 hkx2 hbl2 hx34 HX3' HC3
        try simp only [Act.put, List.setIfInBounds_toArray, List.set_cons_zero, List.set_cons_succ]
        refine callV 8 rfl (by kernel_rfl) (by rfl) (fun K hK => ?_)
        go_simp
        go_at_call 51
        obtain ⟨v, hv1, hv2⟩ := HC4.out.row
        have l1 := takeS_len ra (e, a1, k, m, s)
        have l2 := takeS_len rb (e, a1, k, m, s)
        have l3 := sumS_take ra (e, a1, k, m, s)
        have l4 := sumS_take rb (e, a1, k, m, s)
        have l5 := chgT_len t ((e, a1, k, m, s), takeS ra (e, a1, k, m, s), takeS rb (e, a1, k, m, s))
        refine (sayBoth_any e a1 k m s t (takeS ra (e, a1, k, m, s)) (takeS rb (e, a1, k, m, s)) _ _ v w.heap.size Bl Bt Bs ds w _ hBl rfl HC4.out.below hv1 hv2 HC4.out.t hne HC4.out.say hns HS1.out HS2.out (goodF_take HGA.out HSA.out _).1 (goodF_take HGB.out HSB.out _).1 (goodF_take HGA.out HSA.out _).2 (goodF_take HGB.out HSB.out _).2 (by omega) (by omega)).mono ?_
        rintro en x3 ⟨rfl, ⟨v3, hr1, hr2⟩, hk3, hb3'⟩
        refine hK.out _ _ (hk3.trAt hHeld HNL.out) (fun hHeld => ?_)
        clear hK K hHeld
        have HC5 : Hid (ChgW w t Bl Bt Bs (ds ++ chgT t ((e, a1, k, m, s), takeS ra (e, a1, k, m, s), takeS rb (e, a1, k, m, s))) x3) := ⟨⟨v3, hr1, hr2⟩, hk3.boxed HC4.out.t hne (by decide), hk3.boxed HC4.out.say hns (by decide), HC4.out.below.trans hb3'⟩
        have hy3 := hk3.boxed HX4'.out.1 n1.symm (by decide)
        have hy4 := hk3.boxed HX4'.out.2 n4.symm (by decide)
        have HY := Lib.hid (And.intro hy3 hy4)
        have HLN : Hid ((ds ++ chgT t ((e, a1, k, m, s), takeS ra (e, a1, k, m, s), takeS rb (e, a1, k, m, s))).length + 2 * (sumS (takeR ra (e, a1, k, m, s)) + sumS (takeR rb (e, a1, k, m, s))) ≤ 2 * (sumS a + sumS b)) := by
          show _ ≤ _
          rw [List.length_append]
          simp only at l5
          omega
        clear l1 l2 l3 l4 l5 hv1 hv2 hr1 hr2 hk3 hb3' hy3 hy4 HX4' HC4
        try simp only [Act.put, List.setIfInBounds_toArray, List.set_cons_zero, List.set_cons_succ]
        refine wpAnyH_done (by kernel_rfl) ?_ _
        go_wp2
        go_roundg ((takeR ra (e, a1, k, m, s)).length + (takeR rb (e, a1, k, m, s)).length)
        case measure => exact HLE.out
        case rel => exact ⟨_, _, A5, A6, c5, c6, _, rfl, HFA1.out, HFB2.out, HY.out.1, HY.out.2, HC5.out, by rw [HAL.out, HST.out, List.append_assoc], (takeR_sub _ _).trans HSA.out, (takeR_sub _ _).trans HSB.out, HLN.out⟩
      · have da : decide ((0 : Int) < (ra.length : Int)) = false := decide_eq_false (by omega)
        have db : decide ((0 : Int) < (rb.length : Int)) = true := decide_eq_true (by omega)
        go_wp2_with fail
        refine HLS.out.mono ?_
        rintro en w1 ⟨rfl, hb1⟩
        have hcw1 := HCW.out.next hb1
        obtain ⟨hx3, hx4⟩ := HXX.out
        have hx31 : Boxed w1 b3 26 (.slice A' ra.length c') := (hb1.block _ hx3.lt).trans hx3
        have hx41 : Boxed w1 b4 26 (.slice B' rb.length d') := (hb1.block _ hx4.lt).trans hx4
        obtain ⟨w2, hw2⟩ : ∃ w2, w1.alloc (.cells #[.int .i64 e, .int .i64 a1, .int .i64 k, .int .i64 m, .string s] 71) = w2 := ⟨_, rfl⟩
        have hb2 : Below w1.heap.size w1 w2 := by rw [← hw2]; exact (Below.refl _ w1).alloc (Nat.le_refl _) _
        have HTR : Hid (TrAt w2 w1.heap.size e a1 k m s) := by rw [← hw2]; exact trAt_new w1 e a1 k m s
        have HC2 := Lib.hid ((hcw1.next hb2).next (below_ind (Below.refl _ w2) 1))
        have hx32 : Boxed w2 b3 26 (.slice A' ra.length c') := (hb2.block _ hx31.lt).trans hx31
        have hx42 : Boxed w2 b4 26 (.slice B' rb.length d') := (hb2.block _ hx41.lt).trans hx41
        have m3 : w1.heap.size ≠ b3 := by have := hx31.lt; omega
        have m4 : w1.heap.size ≠ b4 := by have := hx41.lt; omega
        have HNL : Hid (w1.heap.size ≠ Bl) := by obtain ⟨v, g1, _⟩ := hcw1.row; have := g1.lt; show _ ≠ _; omega
        have HX := Lib.hid (And.intro hx32 hx42)
        clear hcw1 hx3 hx4 hx31 hx41 hx32 hx42 hb1 hb2 z3 z4
        go_upto_region 4 with (fail)
        try rw [hw2]
        clear hw2
        refine wp_region_held_drew (S := fun X => TrAt X w1.heap.size e a1 k m s) (by kernel_rfl) HTR.out (fun hHeld => ?_)
        refine takeV 0 (some 19) ((.func (.func 51) #[] #[.pointer (some ⟨Bs, 0, none⟩)])) rfl rfl (by kernel_rfl) (by kernel_rfl) (by kernel_rfl) (fun _ _ _ h => h) (by rfl) (by (intro _w _hSw; (try dsimp only at _hSw); go_simp)) (by assumption) ?_
        simp only [Act.put, List.setIfInBounds_toArray, List.set_cons_zero, List.set_cons_succ]
        refine takeV 1 (some 20) ((.agg #[.int .i64 e, .int .i64 a1, .int .i64 k, .int .i64 m, .string s])) rfl rfl (by kernel_rfl) (by kernel_rfl) (by kernel_rfl) (fun _ _ _ h => h) (by rfl) (by (intro _w hSw; have q0 := hSw.k0; have q1 := hSw.k1; have q2 := hSw.k2; have q3 := hSw.k3; have q4 := hSw.k4; clear hSw; go_simp)) (by assumption) ?_
        simp only [Act.put, List.setIfInBounds_toArray, List.set_cons_zero, List.set_cons_succ]
        refine takeV 2 (some 21) ((.func (.func 77) #[] #[])) rfl rfl (by kernel_rfl) (by kernel_rfl) (by kernel_rfl) (fun _ _ _ h => h) (by rfl) (by (intro _w _hSw; (try dsimp only at _hSw); go_simp)) (by assumption) ?_
        simp only [Act.put, List.setIfInBounds_toArray, List.set_cons_zero, List.set_cons_succ]
        refine takeV 3 (some 22) ((.agg #[.int .i64 e, .int .i64 a1, .int .i64 k, .int .i64 m, .string s])) rfl rfl (by kernel_rfl) (by kernel_rfl) (by kernel_rfl) (fun _ _ _ h => h) (by rfl) (by (intro _w hSw; have q0 := hSw.k0; have q1 := hSw.k1; have q2 := hSw.k2; have q3 := hSw.k3; have q4 := hSw.k4; clear hSw; go_simp)) (by assumption) ?_
        simp only [Act.put, List.setIfInBounds_toArray, List.set_cons_zero, List.set_cons_succ]
        refine takeV 5 (some 24) ((.func (.func 77) #[] #[])) rfl rfl (by kernel_rfl) (by kernel_rfl) (by kernel_rfl) (fun _ _ _ h => h) (by rfl) (by (intro _w _hSw; (try dsimp only at _hSw); go_simp)) (by assumption) ?_
        simp only [Act.put, List.setIfInBounds_toArray, List.set_cons_zero, List.set_cons_succ]
        refine takeV 6 (some 25) ((.agg #[.int .i64 e, .int .i64 a1, .int .i64 k, .int .i64 m, .string s])) rfl rfl (by kernel_rfl) (by kernel_rfl) (by kernel_rfl) (fun _ _ _ h => h) (by rfl) (by (intro _w hSw; have q0 := hSw.k0; have q1 := hSw.k1; have q2 := hSw.k2; have q3 := hSw.k3; have q4 := hSw.k4; clear hSw; go_simp)) (by assumption) ?_
        simp only [Act.put, List.setIfInBounds_toArray, List.set_cons_zero, List.set_cons_succ]
        refine callV 4 rfl (by kernel_rfl) (by rfl) (fun K hK => ?_)
        go_simp
        go_at_call 77
        refine (take_any e a1 k m s A' c' ra w _ b3 HFA.out HC2.out.below n8 HX.out.1).mono ?_
        rintro en x1 ⟨u1, A5, c5, rfl, hsv1, hfa1, hbx1, hkx1, hbl1⟩
        refine hK.out _ _ (hkx1.trAt hHeld m3) (fun hHeld => ?_)
        clear hK K
        obtain ⟨U1, j1, rfl, _⟩ := id hsv1
        have HC3 := Lib.hid (HC2.out.keepX HX.out.1 hkx1 hbl1 n1 n2 n3)
        have hx43 : Boxed x1 b4 26 (.slice B' rb.length d') := hkx1.boxed HX.out.2 n7.symm
        have HX3' := Lib.hid (And.intro hbx1 hx43)
        have HS1 := Lib.hid hsv1
        have HFA1 := Lib.hid hfa1
        clear hsv1 hfa1 hbx1 hkx1 hbl1 hx43 HX HC2
        try simp only [Act.put, List.setIfInBounds_toArray, List.set_cons_zero, List.set_cons_succ]
        refine callV 7 rfl (by kernel_rfl) (by rfl) (fun K hK => ?_)
        go_simp
        go_at_call 77
        refine (take_any e a1 k m s B' d' rb w _ b4 HFB.out HC3.out.below n9 HX3'.out.2).mono ?_
        rintro en x2 ⟨u2, A6, c6, rfl, hsv2, hfb2, hbx2, hkx2, hbl2⟩
        refine hK.out _ _ (hkx2.trAt hHeld m4) (fun hHeld => ?_)
        clear hK K
        obtain ⟨U2, j2, rfl, _⟩ := id hsv2
        have HC4 := Lib.hid (HC3.out.keepX HX3'.out.2 hkx2 hbl2 n4 n5 n6)
        have hx34 : Boxed x2 b3 26 (.slice A5 (takeR ra (e, a1, k, m, s)).length c5) := hkx2.boxed HX3'.out.1 n7
        have HX4' := Lib.hid (And.intro hx34 hbx2)
        have HS2 := Lib.hid hsv2
        have HFB2 := Lib.hid hfb2
        clear hsv2 hfb2 hbx2 hkx2 hbl2 hx34 HX3' HC3
        try simp only [Act.put, List.setIfInBounds_toArray, List.set_cons_zero, List.set_cons_succ]
        refine callV 8 rfl (by kernel_rfl) (by rfl) (fun K hK => ?_)
        go_simp
        go_at_call 51
        obtain ⟨v, hv1, hv2⟩ := HC4.out.row
        have l1 := takeS_len ra (e, a1, k, m, s)
        have l2 := takeS_len rb (e, a1, k, m, s)
        have l3 := sumS_take ra (e, a1, k, m, s)
        have l4 := sumS_take rb (e, a1, k, m, s)
        have l5 := chgT_len t ((e, a1, k, m, s), takeS ra (e, a1, k, m, s), takeS rb (e, a1, k, m, s))
        refine (sayBoth_any e a1 k m s t (takeS ra (e, a1, k, m, s)) (takeS rb (e, a1, k, m, s)) _ _ v w.heap.size Bl Bt Bs ds w _ hBl rfl HC4.out.below hv1 hv2 HC4.out.t hne HC4.out.say hns HS1.out HS2.out (goodF_take HGA.out HSA.out _).1 (goodF_take HGB.out HSB.out _).1 (goodF_take HGA.out HSA.out _).2 (goodF_take HGB.out HSB.out _).2 (by omega) (by omega)).mono ?_
        rintro en x3 ⟨rfl, ⟨v3, hr1, hr2⟩, hk3, hb3'⟩
        refine hK.out _ _ (hk3.trAt hHeld HNL.out) (fun hHeld => ?_)
        clear hK K hHeld
        have HC5 : Hid (ChgW w t Bl Bt Bs (ds ++ chgT t ((e, a1, k, m, s), takeS ra (e, a1, k, m, s), takeS rb (e, a1, k, m, s))) x3) := ⟨⟨v3, hr1, hr2⟩, hk3.boxed HC4.out.t hne (by decide), hk3.boxed HC4.out.say hns (by decide), HC4.out.below.trans hb3'⟩
        have hy3 := hk3.boxed HX4'.out.1 n1.symm (by decide)
        have hy4 := hk3.boxed HX4'.out.2 n4.symm (by decide)
        have HY := Lib.hid (And.intro hy3 hy4)
        have HLN : Hid ((ds ++ chgT t ((e, a1, k, m, s), takeS ra (e, a1, k, m, s), takeS rb (e, a1, k, m, s))).length + 2 * (sumS (takeR ra (e, a1, k, m, s)) + sumS (takeR rb (e, a1, k, m, s))) ≤ 2 * (sumS a + sumS b)) := by
          show _ ≤ _
          rw [List.length_append]
          simp only at l5
          omega
        clear l1 l2 l3 l4 l5 hv1 hv2 hr1 hr2 hk3 hb3' hy3 hy4 HX4' HC4
        try simp only [Act.put, List.setIfInBounds_toArray, List.set_cons_zero, List.set_cons_succ]
        refine wpAnyH_done (by kernel_rfl) ?_ _
        go_wp2
        go_roundg ((takeR ra (e, a1, k, m, s)).length + (takeR rb (e, a1, k, m, s)).length)
        case measure => exact HLE.out
        case rel => exact ⟨_, _, A5, A6, c5, c6, _, rfl, HFA1.out, HFB2.out, HY.out.1, HY.out.2, HC5.out, by rw [HAL.out, HST.out, List.append_assoc], (takeR_sub _ _).trans HSA.out, (takeR_sub _ _).trans HSB.out, HLN.out⟩
end Go.Proofs.YthhkabbgghepbaaGreat

/-
  PLAIN FACTS: datoms, and behind them the changes from their fold to some facts, are folded to these.
-/
namespace Go.Proofs.YthhkabbgghepbaaGreat
open VOrd (IsOrd lexO lex_is ordI_is ordT_is ordT)

/-- the difference of two sets is there -/
theorem minusL_spec (a b : List Sp) : SetL (minusL a b) ∧ ∀ t, Inn (minusL a b) t ↔ Inn a t ∧ ¬ Inn b t := by
  obtain ⟨h1, h2⟩ := of_set (fun x y => x && !y) rfl a b
  have hr : ∀ t, Inn (ofL (fun x y => x && !y) a b [] (endsL (a ++ b))) t ↔ Inn a t ∧ ¬ Inn b t := fun t => by
    have := h2 t
    unfold innB at this
    rw [Bool.eq_iff_iff] at this
    simpa using this
  rw [minusL_is h1 hr]
  exact ⟨h1, hr⟩
theorem rise_cons {f : FactP} {a : List FactP} (h : RiseF (f :: a)) : (∀ g ∈ a, ordTr (triF f) (triF g) < 0) ∧ RiseF a := List.pairwise_cons.1 h
/-- the least triple stands at none's back -/
theorem least_le {a b : List FactP} (ha : RiseF a) (hb : RiseF b) : (∀ g ∈ a, ordTr (leastT a b) (triF g) ≤ 0) ∧ ∀ g ∈ b, ordTr (leastT a b) (triF g) ≤ 0 := by
  have zz : ∀ x, ordTr x x = 0 := fun x => (ordTr_is.zero x x).2 rfl
  have head : ∀ (f : FactP) (r : List FactP), RiseF (f :: r) → ∀ p, ordTr p (triF f) ≤ 0 → ∀ g ∈ f :: r, ordTr p (triF g) ≤ 0 := fun f r h p hp g hg => by
    rcases List.mem_cons.1 hg with rfl | hg
    · exact hp
    · exact ordTr_is.trans _ _ _ hp (Int.le_of_lt ((rise_cons h).1 g hg))
  cases a with
  | nil =>
    cases b with
    | nil => exact ⟨(fun g h => by cases h), (fun g h => by cases h)⟩
    | cons g b => exact ⟨(fun g h => by cases h), head g b hb _ (by show ordTr (triF g) (triF g) ≤ 0; rw [zz]; decide)⟩
  | cons f a =>
    cases b with
    | nil => exact ⟨head f a ha _ (by show ordTr (triF f) (triF f) ≤ 0; rw [zz]; decide), (fun g h => by cases h)⟩
    | cons g b =>
      by_cases h : ordTr (triF f) (triF g) < 0
      · have e : leastT (f :: a) (g :: b) = triF f := by show (if _ then _ else _) = _; rw [if_pos h]
        rw [e]
        exact ⟨head f a ha _ (by rw [zz]; decide), head g b hb _ (Int.le_of_lt h)⟩
      · have e : leastT (f :: a) (g :: b) = triF g := by show (if _ then _ else _) = _; rw [if_neg h]
        rw [e]
        have hs := ordTr_is.swap (triF f) (triF g)
        exact ⟨head f a ha _ (by omega), head g b hb _ (by rw [zz]; decide)⟩
theorem take_spans {a : List FactP} (ha : RiseF a) {p : Tri} (hp : ∀ g ∈ a, ordTr p (triF g) ≤ 0) : takeS a p = spansOf a p ∧ RiseF (takeR a p) ∧ (∀ g ∈ takeR a p, triF g ≠ p) ∧ (∀ x, x ≠ p → spansOf (takeR a p) x = spansOf a x) ∧ ∀ g ∈ a, triF g ≠ p → g ∈ takeR a p := by
  cases a with
  | nil => exact ⟨rfl, ha, (fun g h => by cases h), fun x _ => rfl, (fun g h => by cases h)⟩
  | cons f r =>
    obtain ⟨h1, h2⟩ := rise_cons ha
    by_cases hf : triF f = p
    · have e1 : takeS (f :: r) p = f.l := by unfold takeS; simp [hf]
      have e2 : takeR (f :: r) p = r := by unfold takeR; simp [hf]
      rw [e1, e2]
      refine ⟨by rw [← hf]; exact (spansOf_mem ha (by simp)).symm, h2, fun g hg e => ?_, fun x hx => ?_, fun g hg hne => ?_⟩
      · have := h1 g hg
        rw [hf, e] at this
        exact tri_irr _ this
      · unfold spansOf
        have hd : decide (triF f = x) = false := decide_eq_false (fun h => hx (by rw [← h, hf]))
        rw [List.find?_cons, hd]
      · rcases List.mem_cons.1 hg with rfl | hg
        · exact absurd hf hne
        · exact hg
    · have e1 : takeS (f :: r) p = [] := by unfold takeS; simp [hf]
      have e2 : takeR (f :: r) p = f :: r := by unfold takeR; simp [hf]
      have hlt : ∀ g ∈ f :: r, triF g ≠ p := fun g hg e => by
        rcases List.mem_cons.1 hg with rfl | hg
        · exact hf e
        · have k1 := h1 g hg
          have k2 := hp f (by simp)
          rw [e] at k1
          have k3 := ordTr_is.swap (triF f) p
          omega
      rw [e1, e2]
      exact ⟨(spansOf_none hlt).symm, ha, hlt, fun x _ => rfl, fun g hg _ => hg⟩
theorem tog_is : ∀ (n : Nat) (a b : List FactP), RiseF a → RiseF b → a.length + b.length ≤ n →
    (∀ q ∈ togL n a b, q.2.1 = spansOf a q.1 ∧ q.2.2 = spansOf b q.1 ∧ ((∃ f ∈ a, triF f = q.1) ∨ ∃ f ∈ b, triF f = q.1)) ∧ ∀ x, ((∃ f ∈ a, triF f = x) ∨ ∃ f ∈ b, triF f = x) → ∃ q ∈ togL n a b, q.1 = x
  | 0, a, b, _, _, h => by
    have h1 : a = [] := List.length_eq_zero_iff.1 (by omega)
    have h2 : b = [] := List.length_eq_zero_iff.1 (by omega)
    subst h1 h2
    exact ⟨(fun q hq => by cases hq), fun x hx => by rcases hx with ⟨f, hf, _⟩ | ⟨f, hf, _⟩ <;> cases hf⟩
  | n + 1, a, b, ha, hb, h => by
    by_cases he : a = [] ∧ b = []
    · obtain ⟨rfl, rfl⟩ := he
      rw [togL_nil]
      exact ⟨(fun q hq => by cases hq), fun x hx => by rcases hx with ⟨f, hf, _⟩ | ⟨f, hf, _⟩ <;> cases hf⟩
    · have hl := tog_less he
      obtain ⟨p1, p2⟩ := least_le ha hb
      have hpm : (∃ f ∈ a, triF f = leastT a b) ∨ ∃ f ∈ b, triF f = leastT a b := by
        cases a with
        | nil =>
          cases b with
          | nil => exact absurd ⟨rfl, rfl⟩ he
          | cons g b => exact .inr ⟨g, by simp, rfl⟩
        | cons f a =>
          cases b with
          | nil => exact .inl ⟨f, by simp, rfl⟩
          | cons g b =>
            by_cases h : ordTr (triF f) (triF g) < 0
            · exact .inl ⟨f, by simp, by show _ = (if _ then _ else _); rw [if_pos h]⟩
            · exact .inr ⟨g, by simp, by show _ = (if _ then _ else _); rw [if_neg h]⟩
      obtain ⟨p, hp⟩ : ∃ p, leastT a b = p := ⟨_, rfl⟩
      rw [hp] at hl p1 p2 hpm
      obtain ⟨s1, s2, s3, s4, s5⟩ := take_spans ha p1
      obtain ⟨t1, t2, t3, t4, t5⟩ := take_spans hb p2
      obtain ⟨i1, i2⟩ := tog_is n (takeR a p) (takeR b p) s2 t2 (by omega)
      have e : togL (n + 1) a b = (p, takeS a p, takeS b p) :: togL n (takeR a p) (takeR b p) := by
        show (if a = [] ∧ b = [] then [] else _) = _
        rw [if_neg he, hp]
      rw [e]
      refine ⟨fun q hq => ?_, fun x hx => ?_⟩
      · rcases List.mem_cons.1 hq with rfl | hq
        · exact ⟨s1, t1, hpm⟩
        · obtain ⟨j1, j2, j3⟩ := i1 q hq
          have hne : q.1 ≠ p := by
            rcases j3 with ⟨f, hf, e⟩ | ⟨f, hf, e⟩
            · rw [← e]; exact s3 f hf
            · rw [← e]; exact t3 f hf
          refine ⟨j1.trans (s4 _ hne), j2.trans (t4 _ hne), ?_⟩
          rcases j3 with ⟨f, hf, e⟩ | ⟨f, hf, e⟩
          · exact .inl ⟨f, (takeR_sub _ _).subset hf, e⟩
          · exact .inr ⟨f, (takeR_sub _ _).subset hf, e⟩
      · by_cases hxp : x = p
        · exact ⟨_, List.mem_cons_self, hxp.symm⟩
        · obtain ⟨q, hq, hqe⟩ := i2 x (by
            rcases hx with ⟨f, hf, e⟩ | ⟨f, hf, e⟩
            · exact .inl ⟨f, s5 f hf (by rw [e]; exact hxp), e⟩
            · exact .inr ⟨f, t5 f hf (by rw [e]; exact hxp), e⟩)
          exact ⟨q, List.mem_cons_of_mem _ hq, hqe⟩
/-- what is among the changes -/
theorem chg_mem {a b : List FactP} {t : Int} {d : Dat} (ha : RiseF a) (hb : RiseF b) (h : d ∈ chgL a b t) :
    d.t = t ∧ ((∃ f ∈ a, triF f = triD d) ∨ ∃ f ∈ b, triF f = triD d) ∧ ((d.add = true ∧ spD d ∈ minusL (spansOf b (triD d)) (spansOf a (triD d))) ∨ (d.add = false ∧ spD d ∈ minusL (spansOf a (triD d)) (spansOf b (triD d)))) := by
  obtain ⟨q, hq, hd⟩ := List.mem_flatMap.1 h
  obtain ⟨h1, h2, h3⟩ := (tog_is _ a b ha hb (Nat.le_refl _)).1 q hq
  obtain ⟨x, was, is⟩ := q
  simp only at h1 h2 h3
  subst h1 h2
  unfold chgT at hd
  rcases List.mem_append.1 hd with hd | hd
  · obtain ⟨s, hs, rfl⟩ := List.mem_map.1 hd
    exact ⟨rfl, h3, .inl ⟨rfl, hs⟩⟩
  · obtain ⟨s, hs, rfl⟩ := List.mem_map.1 hd
    exact ⟨rfl, h3, .inr ⟨rfl, hs⟩⟩
theorem mem_chg {a b : List FactP} {t : Int} (ha : RiseF a) (hb : RiseF b) {x : Tri} (hx : (∃ f ∈ a, triF f = x) ∨ ∃ f ∈ b, triF f = x) {s : Sp} :
    (s ∈ minusL (spansOf b x) (spansOf a x) → mkD x t true s ∈ chgL a b t) ∧ (s ∈ minusL (spansOf a x) (spansOf b x) → mkD x t false s ∈ chgL a b t) := by
  obtain ⟨q, hq, rfl⟩ := (tog_is _ a b ha hb (Nat.le_refl _)).2 x hx
  obtain ⟨h1, h2, _⟩ := (tog_is _ a b ha hb (Nat.le_refl _)).1 q hq
  obtain ⟨x, was, is⟩ := q
  simp only at h1 h2
  subst h1 h2
  refine ⟨fun h => List.mem_flatMap.2 ⟨_, hq, ?_⟩, fun h => List.mem_flatMap.2 ⟨_, hq, ?_⟩⟩
  · exact List.mem_append_left _ (List.mem_map.2 ⟨s, h, rfl⟩)
  · exact List.mem_append_right _ (List.mem_map.2 ⟨s, h, rfl⟩)
theorem spans_there {a : List FactP} {x : Tri} {t : Int} (h : Inn (spansOf a x) t) : ∃ f ∈ a, triF f = x := by
  obtain ⟨s, hs, _⟩ := h
  unfold spansOf at hs
  cases hq : a.find? (fun g => decide (triF g = x)) with
  | none => rw [hq] at hs; cases hs
  | some g =>
    have h2 := List.find?_some hq
    exact ⟨g, List.mem_of_find?_eq_some hq, of_decide_eq_true h2⟩
/-- at an instant, what comes and what goes -/
theorem chg_adds {a b : List FactP} {t : Int} (ha : RiseF a) (hb : RiseF b) (x : Tri) (τ : Int) : (∃ d ∈ chgL a b t, triD d = x ∧ d.add = true ∧ Names d τ) ↔ Inn (spansOf b x) τ ∧ ¬ Inn (spansOf a x) τ := by
  rw [← (minusL_spec (spansOf b x) (spansOf a x)).2 τ]
  constructor
  · rintro ⟨d, hd, rfl, had, hn⟩
    obtain ⟨_, _, ⟨_, h⟩ | ⟨h, _⟩⟩ := chg_mem ha hb hd
    · exact ⟨spD d, h, hn⟩
    · rw [had] at h; cases h
  · rintro hi
    have hx := ((minusL_spec (spansOf b x) (spansOf a x)).2 τ).1 hi
    obtain ⟨s, hs, h1, h2⟩ := hi
    exact ⟨mkD x t true s, (mem_chg ha hb (.inr (spans_there hx.1))).1 hs, rfl, rfl, h1, h2⟩
theorem chg_cuts {a b : List FactP} {t : Int} (ha : RiseF a) (hb : RiseF b) (x : Tri) (τ : Int) : (∃ d ∈ chgL a b t, triD d = x ∧ d.add = false ∧ Names d τ) ↔ Inn (spansOf a x) τ ∧ ¬ Inn (spansOf b x) τ := by
  rw [← (minusL_spec (spansOf a x) (spansOf b x)).2 τ]
  constructor
  · rintro ⟨d, hd, rfl, had, hn⟩
    obtain ⟨_, _, ⟨h, _⟩ | ⟨_, h⟩⟩ := chg_mem ha hb hd
    · rw [had] at h; cases h
    · exact ⟨spD d, h, hn⟩
  · rintro hi
    have hx := ((minusL_spec (spansOf a x) (spansOf b x)).2 τ).1 hi
    obtain ⟨s, hs, h1, h2⟩ := hi
    exact ⟨mkD x t false s, (mem_chg ha hb (.inl (spans_there hx.1))).2 hs, rfl, rfl, h1, h2⟩
theorem tri_may {f : FactP} (h : mayF f = true) {d : Dat} (e : triF f = triD d) (h1 : 1 ≤ d.t) (h2 : d.t ≤ 1099511627776) (h3 : d.fr < d.til) : mayD d = true := by
  unfold mayF mayD datF at h
  unfold mayD
  simp only [Bool.and_eq_true] at h ⊢
  unfold triF triD at e
  simp only [Prod.mk.injEq] at e
  obtain ⟨e1, e2, e3, e4, e5⟩ := e
  rw [e1, e2, e3, e4, e5] at h
  exact ⟨⟨h.1.1.1.1, decide_eq_true ⟨h1, h2⟩⟩, decide_eq_true h3⟩
theorem chg_may {a b : List FactP} {t : Int} (ha : mayFs a = true) (hb : mayFs b = true) (h1 : 1 ≤ t) (h2 : t ≤ 1099511627776) {d : Dat} (h : d ∈ chgL a b t) : mayD d = true := by
  obtain ⟨ma, ra⟩ := of_decide_eq_true ha
  obtain ⟨mb, rb⟩ := of_decide_eq_true hb
  obtain ⟨rfl, hf, hs⟩ := chg_mem ra rb h
  have hlt : d.fr < d.til := by
    rcases hs with ⟨_, hs⟩ | ⟨_, hs⟩
    · exact (minusL_spec _ _).1.2 _ hs
    · exact (minusL_spec _ _).1.2 _ hs
  rcases hf with ⟨f, hf, e⟩ | ⟨f, hf, e⟩
  · exact tri_may (ma f hf) e h1 h2 hlt
  · exact tri_may (mb f hf) e h1 h2 hlt
theorem spans_last' {l : List Dat} {fs : List FactP} (hg : Goes (sortsD 1 l)) (h : FoldsTo (runsL triD (sortsD 1 l)) fs) (hm : notMay l = false) (x : Tri) (t : Int) :
    Inn (spansOf fs x) t ↔ ∃ z ∈ l, triD z = x ∧ z.add = true ∧ Names z t ∧ ∀ y ∈ l, triD y = x → Names y t → y.add = false → y.t < z.t := by
  by_cases hx : ∃ d ∈ l, triD d = x
  · obtain ⟨d, hd, rfl⟩ := hx
    exact spans_last hg h hm hd t
  · constructor
    · intro hi
      obtain ⟨f, hf, e⟩ := spans_there hi
      obtain ⟨ls, h1, h2, rfl⟩ := h
      obtain ⟨i, d, r, q, g1, _, _, rfl⟩ := mem_factsOf _ _ f hf
      exact absurd ⟨d, ((sorts_ups l).2 d).1 (run_in_mem triD (List.mem_of_getElem? g1) (by simp)), e⟩ hx
    · rintro ⟨z, hz, e, _⟩
      exact absurd ⟨z, hz, e⟩ hx
theorem facts_ext {a b : List FactP} (ha : mayFs a = true) (hb : mayFs b = true) (h : ∀ x t, Inn (spansOf a x) t ↔ Inn (spansOf b x) t) : a = b := by
  obtain ⟨ma, ra⟩ := of_decide_eq_true ha
  obtain ⟨mb, rb⟩ := of_decide_eq_true hb
  have good : ∀ f : FactP, mayF f = true → SetL f.l ∧ f.l ≠ [] := fun f hf => by
    unfold mayF at hf
    simp only [Bool.and_eq_true] at hf
    exact ⟨of_decide_eq_true hf.2, List.length_pos_iff.1 (of_decide_eq_true hf.1.2)⟩
  have has : ∀ (l : List FactP), (∀ f ∈ l, mayF f = true) → RiseF l → ∀ x, x ∈ l.map triF ↔ ∃ t, Inn (spansOf l x) t := fun l hl hr x => by
    constructor
    · intro hx
      obtain ⟨f, hf, rfl⟩ := List.mem_map.1 hx
      obtain ⟨g1, g2⟩ := good f (hl f hf)
      rw [spansOf_mem hr hf]
      cases hfl : f.l with
      | nil => exact absurd hfl g2
      | cons s r => exact ⟨s.1, (set_start (s := s) (by rw [← hfl]; exact g1) (by simp)).1⟩
    · rintro ⟨t, hi⟩
      obtain ⟨f, hf, e⟩ := spans_there hi
      exact List.mem_map.2 ⟨f, hf, e⟩
  have hmap : a.map triF = b.map triF := by
    refine ups_uniq ordTr_is _ _ ?_ ?_ fun x => ?_
    · unfold Ups; exact List.pairwise_map.2 ra
    · unfold Ups; exact List.pairwise_map.2 rb
    · rw [has a ma ra, has b mb rb]
      exact exists_congr fun t => h x t
  have hlen : a.length = b.length := by have := congrArg List.length hmap; simpa using this
  refine List.ext_getElem hlen fun i h1 h2 => ?_
  have e : triF a[i] = triF b[i] := by
    have := List.getElem_of_eq hmap (i := i) (by simpa using h1)
    simpa using this
  have k1 := spansOf_mem ra (List.getElem_mem h1)
  have k2 := spansOf_mem rb (List.getElem_mem h2)
  have el : a[i].l = b[i].l := by
    refine set_ext (good _ (ma _ (List.getElem_mem h1))).1 (good _ (mb _ (List.getElem_mem h2))).1 fun t => ?_
    rw [← k1, ← k2, e]
    exact h _ t
  unfold triF at e
  simp only [Prod.mk.injEq] at e
  generalize a[i] = f at e el
  generalize b[i] = g at e el
  obtain ⟨f1, f2, f3, f4, f5, f6⟩ := f
  obtain ⟨g1, g2, g3, g4, g5, g6⟩ := g
  simp only at e el
  obtain ⟨rfl, rfl, rfl, rfl, rfl⟩ := e
  subst el
  rfl
/-- THE STAGE'S THEOREM, in plain words -/
theorem change_folds {l : List Dat} {old now : List FactP} {t : Int} (hm : notMay l = false) (hg : Goes (sortsD 1 l)) (hf : FoldsTo (runsL triD (sortsD 1 l)) old) (hn : mayFs now = true) (h1 : 1 ≤ t) (h2 : t ≤ 1099511627776) (ht : ∀ d ∈ l, d.t < t) :
    notMay (l ++ chgL old now t) = false ∧ Goes (sortsD 1 (l ++ chgL old now t)) ∧ ∀ fs, FoldsTo (runsL triD (sortsD 1 (l ++ chgL old now t))) fs → fs = now := by
  have ho := foldsTo_may hm hf
  have ra := (of_decide_eq_true ho).2
  have rb := (of_decide_eq_true hn).2
  have m1 : notMay (l ++ chgL old now t) = false := by
    unfold notMay at hm ⊢
    rw [List.any_append, hm, Bool.false_or, List.any_eq_false]
    exact fun d hd => by simp [chg_may ho hn h1 h2 hd]
  have both : ∀ z, z ∈ l ++ chgL old now t → z.t ≤ t ∧ (z.t = t → z ∈ chgL old now t) ∧ (z.t ≠ t → z ∈ l) := fun z hz => by
    rcases List.mem_append.1 hz with hz | hz
    · have := ht z hz
      exact ⟨by omega, fun e => by omega, fun _ => hz⟩
    · have := (chg_mem ra rb hz).1
      exact ⟨by omega, fun _ => hz, fun e => absurd this e⟩
  have m2 : Goes (sortsD 1 (l ++ chgL old now t)) := fun run hr once hoo => by
    rintro ⟨τ, hi1, hi2⟩
    obtain ⟨x, hx, hxa, hxn⟩ := inn_adds.1 hi1
    obtain ⟨y, hy, hya, hyn⟩ := inn_cuts.1 hi2
    have hxr := run_in_mem (fun d : Dat => d.t) hoo hx
    have hyr := run_in_mem (fun d : Dat => d.t) hoo hy
    have et : x.t = y.t := run_all (fun d : Dat => d.t) hoo hx hy
    have e : triD x = triD y := run_all triD hr hxr hyr
    have hxb := both x (((sorts_ups _).2 x).1 (run_in_mem triD hr hxr))
    have hyb := both y (((sorts_ups _).2 y).1 (run_in_mem triD hr hyr))
    by_cases he : x.t = t
    · have k1 := (chg_adds ra rb (triD x) τ).1 ⟨x, hxb.2.1 he, rfl, hxa, hxn⟩
      have k2 := (chg_cuts ra rb (triD x) τ).1 ⟨y, hyb.2.1 (by omega), e.symm, hya, hyn⟩
      exact k1.2 k2.1
    · have := goes_apart hg (hxb.2.2 he) (hyb.2.2 (by omega)) e et hxn hyn
      rw [hxa, hya] at this
      cases this
  refine ⟨m1, m2, fun fs hfs => facts_ext (foldsTo_may m1 hfs) hn fun x τ => ?_⟩
  rw [spans_last' m2 hfs m1 x τ]
  have hO := spans_last' hg hf hm x τ
  have hA := chg_adds (t := t) ra rb x τ
  have hC := chg_cuts (t := t) ra rb x τ
  constructor
  · rintro ⟨z, hz, e, hza, hzn, hzy⟩
    rcases List.mem_append.1 hz with hzl | hzc
    · have hold : Inn (spansOf old x) τ := hO.2 ⟨z, hzl, e, hza, hzn, fun y hy => hzy y (List.mem_append_left _ hy)⟩
      refine Classical.byContradiction fun hnn => ?_
      obtain ⟨y, hy, ye, ya, yn⟩ := hC.2 ⟨hold, hnn⟩
      have k1 := hzy y (List.mem_append_right _ hy) ye yn ya
      have k2 := (chg_mem ra rb hy).1
      have k3 := ht z hzl
      omega
    · exact (hA.1 ⟨z, hzc, e, hza, hzn⟩).1
  · intro hN
    by_cases hold : Inn (spansOf old x) τ
    · obtain ⟨z, hzl, e, hza, hzn, hzy⟩ := hO.1 hold
      refine ⟨z, List.mem_append_left _ hzl, e, hza, hzn, fun y hy ye yn ya => ?_⟩
      rcases List.mem_append.1 hy with hy | hy
      · exact hzy y hy ye yn ya
      · exact absurd hN (hC.1 ⟨y, hy, ye, ya, yn⟩).2
    · obtain ⟨z, hzc, e, hza, hzn⟩ := hA.2 ⟨hN, hold⟩
      refine ⟨z, List.mem_append_right _ hzc, e, hza, hzn, fun y hy ye yn ya => ?_⟩
      rcases List.mem_append.1 hy with hy | hy
      · have := ht y hy
        have := (chg_mem ra rb hzc).1
        omega
      · exact absurd (hC.1 ⟨y, hy, ye, ya, yn⟩).1 hold
/-- from facts to themselves there are no changes -/
theorem chg_same {a : List FactP} (ha : RiseF a) (t : Int) : chgL a a t = [] := by
  refine List.eq_nil_iff_forall_not_mem.2 fun d hd => ?_
  obtain ⟨_, _, h⟩ := chg_mem ha ha hd
  rcases h with ⟨_, h⟩ | ⟨_, h⟩
  · have := ((minusL_spec (spansOf a (triD d)) (spansOf a (triD d))).2 _).1 (set_start (minusL_spec _ _).1 h).1
    exact this.2 this.1
  · have := ((minusL_spec (spansOf a (triD d)) (spansOf a (triD d))).2 _).1 (set_start (minusL_spec _ _).1 h).1
    exact this.2 this.1
end Go.Proofs.YthhkabbgghepbaaGreat

/-
  CONTRACT: the document's Great of facts; how many spans a fold has, and how many changes there are.
-/
namespace Go.Proofs.YthhkabbgghepbaaGreat
open Go.RowKit Go.Shelf

def costF (l : List FactP) : Int := (l.map fun f => (20 + (f.s.size : Int) + 4 * (f.l.length : Int))).sum
theorem costF_take {l : List FactP} {j : Nat} (h : j < l.length) : costF (l.take (j + 1)) = costF (l.take j) + 20 + (l[j].s.size : Int) + 4 * (l[j].l.length : Int) := by
  have ht : l.take (j + 1) = l.take j ++ [l[j]] := by rw [List.take_add_one, List.getElem?_eq_getElem h]; rfl
  unfold costF
  rw [ht, List.map_append, List.sum_append]
  simp
  omega
theorem costF_le (l : List FactP) (hs : ∀ p ∈ l, p.s.size + p.l.length ≤ 1048576) : costF l ≤ l.length * 4194324 ∧ (l.length : Int) * 20 + 4 * (sumS l : Int) ≤ costF l := by
  induction l with
  | nil => simp [costF, sumS]
  | cons p r ih =>
    have h1 := ih (fun q hq => hs q (by simp [hq]))
    have h2 := hs p (by simp)
    unfold costF sumS at h1 ⊢
    simp only [List.map_cons, List.sum_cons, List.length_cons]
    omega
set_option maxRecDepth 100000 in
set_option maxHeartbeats 2000000 in
theorem greatF_upto (A : Option Addr) (c : Nat) (l : List FactP) (w : World) (hs : FVa w (.slice A l.length c) l) (hl : l.length ≤ 1048576) (hz : ∀ f ∈ l, f.s.size + f.l.length ≤ 1048576) :
    Calls Tryz.prog 24 #[.slice A l.length c] w fun e w' => ((e = .returned (.int .i64 0) ∧ l.length ≤ 150 ∧ sumS l ≤ 750) ∨ e = .returned (.int .i64 1)) ∧ Below w.heap.size w w' := by
  have HS := Lib.hid hs
  have HZ := Lib.hid hz
  clear hs hz
  go_enter Tryz.func24, Tryz.ntmps24
  go_wp2
  go_loopg [3, 4] l.length (fun g x y wr => ∃ j q : Nat, x = .int .i64 (costF (l.take j)) ∧ y = .int .i64 j ∧ j + g = l.length ∧ wr = w.drewN q)
  case atStart => exact ⟨0, 0, rfl, rfl, by omega, rfl⟩
  case round =>
    obtain ⟨j, q, rfl, rfl, hj, rfl⟩ := hrel
    cases gk with
    | succ g =>
      have hji : (j : Int) < (l.length : Int) := by omega
      have hjn : j < l.length := by omega
      obtain ⟨b, o, sv, rfl, _, hc, hsv⟩ := fva_at HS.out hjn
      obtain ⟨As, cs, rfl, _⟩ := hsv
      have hcs := Lib.hid (costF_take hjn)
      have hcl := costF_le (l.take j) (fun p hp => HZ.out p (List.mem_of_mem_take hp))
      have htl : (l.take j).length ≤ 1048576 := by rw [List.length_take]; omega
      obtain ⟨T, hT⟩ : ∃ T, costF (l.take j) = T := ⟨_, rfl⟩
      rw [hT] at hcl
      rw [hT]
      have hsz := HZ.out _ (List.getElem_mem hjn)
      obtain ⟨f, hf⟩ : ∃ f, l[j] = f := ⟨_, rfl⟩
      rw [hf] at hc hcs hsz
      have hTT : T ≤ 5000000000000 := by omega
      have hT0 : 0 ≤ T := by omega
      have hs1 : f.s.size ≤ 1048576 := by omega
      have hs2 : f.l.length ≤ 1048576 := by omega
      have HT := Lib.hid hT
      have c4 := hc.2.2.2.2.1
      have c5 := hc.2.2.2.2.2
      clear hc hT hcl htl hf hsz
      go_wp2
      go_big_quiet (fail)
      go_wp2
      go_roundg g
      case measure => omega
      case rel => exact ⟨j + 1, _, by rw [hcs.out, HT.out], by go_num, by omega, rfl⟩
    | zero =>
      have hji : ¬ (j : Int) < (l.length : Int) := by omega
      have ht : l.take j = l := List.take_of_length_le (by omega)
      have hcl := costF_le l HZ.out
      rw [ht]
      obtain ⟨T, hT⟩ : ∃ T, costF l = T := ⟨_, rfl⟩
      rw [hT] at hcl ⊢
      have HB : Hid (Below w.heap.size w (w.drewN q)) := below_ind (Below.refl _ w) q
      clear ht hT
      by_cases hn : 3000 < T
      · go_wp2
        go_ret
        exact ⟨.inr rfl, HB.out⟩
      · have hl2 : l.length ≤ 150 := by omega
        have hl3 : sumS l ≤ 750 := by omega
        clear hcl
        go_wp2
        go_ret
        first | exact ⟨.inl ⟨rfl, hl2, hl3⟩, HB.out⟩ | exact ⟨.inl rfl, HB.out⟩

theorem turnsAt_inT {E : List Int} : ∀ (rs : List (List Dat)), (∀ r ∈ rs, TurnsAt E (Inn (addsL r)) ∧ TurnsAt E (Inn (cutsL r))) → TurnsAt E (inT (rs.map turnR))
  | [], _ => turnsAt_no E
  | r :: rs, h => by
    have ih := turnsAt_inT rs (fun q hq => h q (List.mem_cons_of_mem _ hq))
    have hn : TurnsAt E (fun t => ∀ y ∈ rs.map turnR, ¬ Inn y.o t) := fun t ht => by
      refine forall_congr' fun y => forall_congr' fun hy => ?_
      obtain ⟨q, hq, rfl⟩ := List.mem_map.1 hy
      exact not_congr ((h q (List.mem_cons_of_mem _ hq)).2 t ht)
    exact (((h r List.mem_cons_self).1.and hn).or ih).iff fun t => Iff.rfl
theorem held_few {run : List Dat} {l : List Sp} (h : HeldL run l) : l.length ≤ run.length := by
  have hsub : ∀ r ∈ timesL run, ∀ d ∈ r, d ∈ run := fun r hr d hd => run_in_mem (fun d : Dat => d.t) hr hd
  have h1 : TurnsAt (endsD run) (Inn l) := (turnsAt_inT (timesL run) fun r hr => ⟨turnsAt_adds (hsub r hr), turnsAt_cuts (hsub r hr)⟩).iff h.2
  have h2 := set_few2 h.1 h1
  rw [endsD_len] at h2
  omega
theorem factsOf_sum : ∀ (rs : List (List Dat)) (ls : List (List Sp)), (∀ (i : Nat) (r : List Dat) (l : List Sp), rs[i]? = some r → ls[i]? = some l → HeldL r l) → sumS (factsOf rs ls) ≤ rs.flatten.length
  | [], _, _ => Nat.zero_le _
  | _ :: _, [], _ => Nat.zero_le _
  | r :: rs, l :: ls, h => by
    have ih := factsOf_sum rs ls (fun i a b ha hb => h (i + 1) a b (by simpa using ha) (by simpa using hb))
    have h0 := held_few (h 0 r l rfl rfl)
    rw [factsOf_cons, List.flatten_cons, List.length_append]
    have h3 : sumS (factOf r l ++ factsOf rs ls) = sumS (factOf r l) + sumS (factsOf rs ls) := by unfold sumS; simp
    have h4 : sumS (factOf r l) ≤ l.length := by
      unfold factOf
      cases r with
      | nil => exact Nat.zero_le _
      | cons d r =>
        simp only
        split
        · exact Nat.zero_le _
        · unfold sumS factD; simp
    omega
theorem foldsTo_sum {s : List Dat} {fs : List FactP} (h : FoldsTo (runsL triD s) fs) : sumS fs ≤ s.length := by
  obtain ⟨ls, h1, h2, rfl⟩ := h
  have := factsOf_sum _ _ h2
  rwa [runsL_join triD _ s (Nat.le_refl _)] at this
theorem chgL_len : ∀ (n : Nat) (a b : List FactP) (t : Int), a.length + b.length ≤ n → (chgL a b t).length ≤ 2 * (sumS a + sumS b)
  | 0, a, b, t, h => by
    have h1 : a = [] := List.length_eq_zero_iff.1 (by omega)
    have h2 : b = [] := List.length_eq_zero_iff.1 (by omega)
    subst h1 h2
    rw [chgL_nil]; exact Nat.zero_le _
  | n + 1, a, b, t, h => by
    by_cases he : a = [] ∧ b = []
    · obtain ⟨rfl, rfl⟩ := he
      rw [chgL_nil]; exact Nat.zero_le _
    · have hl := tog_less he
      rw [chgL_step he, List.length_append]
      have h1 := chgT_len t (leastT a b, takeS a (leastT a b), takeS b (leastT a b))
      have h2 := chgL_len n (takeR a (leastT a b)) (takeR b (leastT a b)) t (by omega)
      have h3 := sumS_take a (leastT a b)
      have h4 := sumS_take b (leastT a b)
      simp only at h1
      omega
theorem minus_ok {a b : List Sp} (ha : ∀ q ∈ a, SpOk q) : ∀ q ∈ minusL a b, SpOk q := fun q hq => by
  obtain ⟨h1, h2⟩ := minusL_spec a b
  obtain ⟨x, hx, x1, x2⟩ := ((h2 _).1 (set_start h1 hq).1).1
  obtain ⟨y, hy, y1, y2⟩ := ((h2 _).1 (set_end h1 hq).1).1
  have k1 := ha x hx
  have k2 := ha y hy
  have k3 := h1.2 q hq
  unfold SpOk at *
  exact ⟨⟨by omega, by omega⟩, by omega, by omega⟩
theorem spansOf_ok {a : List FactP} (h : ∀ f ∈ a, ∀ q ∈ f.l, SpOk q) (x : Tri) : ∀ q ∈ spansOf a x, SpOk q := by
  unfold spansOf
  cases hq : a.find? (fun g => decide (triF g = x)) with
  | none => exact fun q h => by cases h
  | some g => exact h g (List.mem_of_find?_eq_some hq)
theorem chg_ok {a b : List FactP} {t : Int} (ra : RiseF a) (rb : RiseF b) (ha : ∀ f ∈ a, ∀ q ∈ f.l, SpOk q) (hb : ∀ f ∈ b, ∀ q ∈ f.l, SpOk q) {d : Dat} (h : d ∈ chgL a b t) : SpOk (spD d) := by
  obtain ⟨_, _, ⟨_, h⟩ | ⟨_, h⟩⟩ := chg_mem ra rb h
  · exact minus_ok (spansOf_ok hb _) _ h
  · exact minus_ok (spansOf_ok ha _) _ h
/-- the spans of a fold are of instants -/
theorem fold_ok {l : List Dat} {fs : List FactP} (hk : ∀ d ∈ l, SpOk (spD d)) (h : FoldsTo (runsL triD (sortsD 1 l)) fs) : ∀ f ∈ fs, ∀ q ∈ f.l, SpOk q := fun f hf q hq => by
  obtain ⟨ls, h1, h2, rfl⟩ := h
  obtain ⟨i, d, r, m, g1, g2, _, rfl⟩ := mem_factsOf _ _ f hf
  have hh := h2 i _ _ g1 g2
  have hrm : ∀ x ∈ d :: r, x ∈ l := fun x hx => ((sorts_ups l).2 x).1 (run_in_mem triD (List.mem_of_getElem? g1) hx)
  have key : ∀ τ, Inn m τ → ∃ x ∈ d :: r, Names x τ := fun τ hi => by
    have h3 := (hh.2 τ).1 hi
    have gen : ∀ (rs : List (List Dat)), inT (rs.map turnR) τ → ∃ r ∈ rs, Inn (addsL r) τ := fun rs => by
      induction rs with
      | nil => intro h; cases h
      | cons r rs ih =>
        rintro (⟨h, _⟩ | h)
        · exact ⟨r, List.mem_cons_self, h⟩
        · obtain ⟨q, hq, h⟩ := ih h
          exact ⟨q, List.mem_cons_of_mem _ hq, h⟩
    obtain ⟨o, ho, h4⟩ := gen _ h3
    obtain ⟨x, hx, _, hn⟩ := inn_adds.1 h4
    exact ⟨x, run_in_mem (fun d : Dat => d.t) ho hx, hn⟩
  obtain ⟨x, hx, x1, x2⟩ := key _ (set_start hh.1 hq).1
  obtain ⟨y, hy, y1, y2⟩ := key _ (set_end hh.1 hq).1
  have k1 := hk x (hrm x hx)
  have k2 := hk y (hrm y hy)
  have k3 := hh.1.2 q hq
  unfold SpOk spD at *
  simp only at k1 k2
  exact ⟨⟨by omega, by omega⟩, by omega, by omega⟩
end Go.Proofs.YthhkabbgghepbaaGreat

/-
  CONTRACT: the document's Same of two lists of facts that are equal, wherever their spans lie.
-/
namespace Go.Proofs.YthhkabbgghepbaaGreat
open Go.RowKit Go.Shelf

def SmSA (b o b' o' : Nat) (f : FactP) (sv sv' : Value) (W : World) : Prop := FcV W b o f sv ∧ FcV W b' o' f sv' ∧ SVa W sv f.l ∧ SVa W sv' f.l ∧ b < W.heap.size ∧ b' < W.heap.size
theorem SmSA.next {b o b' o' : Nat} {f : FactP} {sv sv' : Value} {W W' : World} (h : SmSA b o b' o' f sv sv' W) (hb : Below W.heap.size W W') : SmSA b o b' o' f sv sv' W' :=
  ⟨h.1.next hb h.2.2.2.2.1, h.2.1.next hb h.2.2.2.2.2, h.2.2.1.next hb, h.2.2.2.1.next hb, Nat.lt_of_lt_of_le h.2.2.2.2.1 hb.size, Nat.lt_of_lt_of_le h.2.2.2.2.2 hb.size⟩
set_option maxRecDepth 100000 in
set_option maxHeartbeats 4000000 in
theorem sameFa_any (A A' : Option Addr) (c c' : Nat) (fs : List FactP) (w : World) (hs : FVa w (.slice A fs.length c) fs) (hs' : FVa w (.slice A' fs.length c') fs) (hl : fs.length ≤ 100000) (hls : ∀ f ∈ fs, f.l.length ≤ 1048576) :
    Calls Tryz.prog 16 #[.slice A fs.length c, .slice A' fs.length c'] w fun e w' => e = .returned (.bool true) ∧ Below w.heap.size w w' := by
  have HS := Lib.hid (And.intro hs hs')
  have HL := Lib.hid hls
  clear hs hs' hls
  go_enter Tryz.func16, Tryz.ntmps16
  go_wp2
  go_loopg [5] fs.length (fun g i wr => ∃ j : Nat, i = .int .i64 j ∧ j + g = fs.length ∧ Hid (Below w.heap.size w wr))
  case atStart => exact ⟨0, rfl, by omega, Below.refl _ _⟩
  case round =>
    obtain ⟨j, rfl, hj, HB⟩ := hrel
    cases gk with
    | succ g =>
      have h1 : j < fs.length := by omega
      have hji : (j : Int) < (fs.length : Int) := by omega
      obtain ⟨b, o, sv, rfl, hb1, hc1, hv1⟩ := fva_at (HS.out.1.next HB.out) h1
      obtain ⟨b', o', sv', rfl, hb2, hc2, hv2⟩ := fva_at (HS.out.2.next HB.out) h1
      obtain ⟨f, hf⟩ : ∃ f, fs[j] = f := ⟨_, rfl⟩
      rw [hf] at hc1 hv1 hc2 hv2
      have hfl : f.l.length ≤ 1048576 := HL.out f (by rw [← hf]; exact List.getElem_mem _)
      have hq := fun X => neV_run (f.k, f.m, f.s) (f.k, f.m, f.s) X
      rw [decide_eq_true (rfl : (f.k, f.m, f.s) = (f.k, f.m, f.s))] at hq
      obtain ⟨As, cs, rfl, ha1⟩ := id hv1
      obtain ⟨Bs, ds, rfl, ha2⟩ := id hv2
      have HM : Hid (SmSA b (o + j * 6) b' (o' + j * 6) f (.slice As f.l.length cs) (.slice Bs f.l.length ds) wr.drew) := SmSA.next ⟨hc1, hc2, hv1, hv2, hb1, hb2⟩ (Below.refl _ wr).drew
      have HSa : Hid (SlS wr.drew wr.drew.heap.size As f.l) := ha1.1.next (Below.refl _ wr).drew (Nat.le_refl _)
      have HSb : Hid (SlS wr.drew wr.drew.heap.size Bs f.l) := ha2.1.next (Below.refl _ wr).drew (Nat.le_refl _)
      have HBd : Hid (Below w.heap.size w wr.drew) := HB.out.drew
      clear hf hc1 hc2 hv1 hv2 ha1 ha2 hb1 hb2
      go_wp2_with fail
      obtain ⟨wd, hwd⟩ : ∃ wd, wr.drew = wd := ⟨_, rfl⟩
      rw [hwd] at HM HSa HSb HBd
      refine wp_region_held_drew (S := SmSA b (o + j * 6) b' (o' + j * 6) f (.slice As f.l.length cs) (.slice Bs f.l.length ds)) (by kernel_rfl) (by rw [hwd]; exact HM.out) (fun hHeld => ?_)
      rw [hwd] at hHeld ⊢
      refine takeV 0 (some 17) ((.slice (some ⟨b, o, none⟩) fs.length c)) rfl rfl (by kernel_rfl) (by kernel_rfl) (by kernel_rfl) (fun _ _ _ h => h) (by rfl) (by (intro _w _hSw; (try dsimp only at _hSw); go_simp)) (by assumption) ?_
      simp only [Act.put, List.setIfInBounds_toArray, List.set_cons_zero, List.set_cons_succ]
      refine takeV 1 (some 18) ((.int .i64 j)) rfl rfl (by kernel_rfl) (by kernel_rfl) (by kernel_rfl) (fun _ _ _ h => h) (by rfl) (by (intro _w _hSw; (try dsimp only at _hSw); go_simp)) (by assumption) ?_
      simp only [Act.put, List.setIfInBounds_toArray, List.set_cons_zero, List.set_cons_succ]
      refine takeV 2 (some 19) ((.pointer (some ⟨b, o + j * 6, none⟩))) rfl rfl (by kernel_rfl) (by kernel_rfl) (by kernel_rfl) (fun _ _ _ h => h) (by rfl) (by (intro _w _hSw; (try dsimp only at _hSw); go_simp)) (by assumption) ?_
      simp only [Act.put, List.setIfInBounds_toArray, List.set_cons_zero, List.set_cons_succ]
      refine takeV 3 (some 20) ((.pointer (some ⟨b, o + j * 6, none⟩))) rfl rfl (by kernel_rfl) (by kernel_rfl) (by kernel_rfl) (fun _ _ _ h => h) (by rfl) (by (intro _w _hSw; (try dsimp only at _hSw); go_simp)) (by assumption) ?_
      simp only [Act.put, List.setIfInBounds_toArray, List.set_cons_zero, List.set_cons_succ]
      refine takeV 4 (some 21) ((.int .i64 f.e)) rfl rfl (by kernel_rfl) (by kernel_rfl) (by kernel_rfl) (fun _ _ _ h => h) (by rfl) (by (intro _w hSw; have q0 := hSw.1.1; clear hSw; go_simp)) (by assumption) ?_
      simp only [Act.put, List.setIfInBounds_toArray, List.set_cons_zero, List.set_cons_succ]
      refine takeV 5 (some 22) ((.slice (some ⟨b', o', none⟩) fs.length c')) rfl rfl (by kernel_rfl) (by kernel_rfl) (by kernel_rfl) (fun _ _ _ h => h) (by rfl) (by (intro _w _hSw; (try dsimp only at _hSw); go_simp)) (by assumption) ?_
      simp only [Act.put, List.setIfInBounds_toArray, List.set_cons_zero, List.set_cons_succ]
      refine takeV 6 (some 23) ((.int .i64 j)) rfl rfl (by kernel_rfl) (by kernel_rfl) (by kernel_rfl) (fun _ _ _ h => h) (by rfl) (by (intro _w _hSw; (try dsimp only at _hSw); go_simp)) (by assumption) ?_
      simp only [Act.put, List.setIfInBounds_toArray, List.set_cons_zero, List.set_cons_succ]
      refine takeV 7 (some 24) ((.pointer (some ⟨b', o' + j * 6, none⟩))) rfl rfl (by kernel_rfl) (by kernel_rfl) (by kernel_rfl) (fun _ _ _ h => h) (by rfl) (by (intro _w _hSw; (try dsimp only at _hSw); go_simp)) (by assumption) ?_
      simp only [Act.put, List.setIfInBounds_toArray, List.set_cons_zero, List.set_cons_succ]
      refine takeV 8 (some 25) ((.pointer (some ⟨b', o' + j * 6, none⟩))) rfl rfl (by kernel_rfl) (by kernel_rfl) (by kernel_rfl) (fun _ _ _ h => h) (by rfl) (by (intro _w _hSw; (try dsimp only at _hSw); go_simp)) (by assumption) ?_
      simp only [Act.put, List.setIfInBounds_toArray, List.set_cons_zero, List.set_cons_succ]
      refine takeV 9 (some 26) ((.int .i64 f.e)) rfl rfl (by kernel_rfl) (by kernel_rfl) (by kernel_rfl) (fun _ _ _ h => h) (by rfl) (by (intro _w hSw; have q0 := hSw.2.1.1; clear hSw; go_simp)) (by assumption) ?_
      simp only [Act.put, List.setIfInBounds_toArray, List.set_cons_zero, List.set_cons_succ]
      refine takeV 10 (some 27) ((.bool false)) rfl rfl (by kernel_rfl) (by kernel_rfl) (by kernel_rfl) (fun _ _ _ h => h) (by rfl) (by (intro _w _hSw; (try dsimp only at _hSw); go_simp)) (by assumption) ?_
      simp only [Act.put, List.setIfInBounds_toArray, List.set_cons_zero, List.set_cons_succ]
      refine takeV 11 (some 28) ((.bool false)) rfl rfl (by kernel_rfl) (by kernel_rfl) (by kernel_rfl) (fun _ _ _ h => h) (by rfl) (by (intro _w _hSw; (try dsimp only at _hSw); go_simp)) (by assumption) ?_
      simp only [Act.put, List.setIfInBounds_toArray, List.set_cons_zero, List.set_cons_succ]
      refine takeV 12 (some 29) ((.slice (some ⟨b, o, none⟩) fs.length c)) rfl rfl (by kernel_rfl) (by kernel_rfl) (by kernel_rfl) (fun _ _ _ h => h) (by rfl) (by (intro _w _hSw; (try dsimp only at _hSw); go_simp)) (by assumption) ?_
      simp only [Act.put, List.setIfInBounds_toArray, List.set_cons_zero, List.set_cons_succ]
      refine takeV 13 (some 30) ((.int .i64 j)) rfl rfl (by kernel_rfl) (by kernel_rfl) (by kernel_rfl) (fun _ _ _ h => h) (by rfl) (by (intro _w _hSw; (try dsimp only at _hSw); go_simp)) (by assumption) ?_
      simp only [Act.put, List.setIfInBounds_toArray, List.set_cons_zero, List.set_cons_succ]
      refine takeV 14 (some 31) ((.pointer (some ⟨b, o + j * 6, none⟩))) rfl rfl (by kernel_rfl) (by kernel_rfl) (by kernel_rfl) (fun _ _ _ h => h) (by rfl) (by (intro _w _hSw; (try dsimp only at _hSw); go_simp)) (by assumption) ?_
      simp only [Act.put, List.setIfInBounds_toArray, List.set_cons_zero, List.set_cons_succ]
      refine takeV 15 (some 32) ((.pointer (some ⟨b, o + j * 6 + 1, none⟩))) rfl rfl (by kernel_rfl) (by kernel_rfl) (by kernel_rfl) (fun _ _ _ h => h) (by rfl) (by (intro _w _hSw; (try dsimp only at _hSw); go_simp)) (by assumption) ?_
      simp only [Act.put, List.setIfInBounds_toArray, List.set_cons_zero, List.set_cons_succ]
      refine takeV 16 (some 33) ((.int .i64 f.a)) rfl rfl (by kernel_rfl) (by kernel_rfl) (by kernel_rfl) (fun _ _ _ h => h) (by rfl) (by (intro _w hSw; have q0 := hSw.1.2.1; clear hSw; go_simp)) (by assumption) ?_
      simp only [Act.put, List.setIfInBounds_toArray, List.set_cons_zero, List.set_cons_succ]
      refine takeV 17 (some 34) ((.slice (some ⟨b', o', none⟩) fs.length c')) rfl rfl (by kernel_rfl) (by kernel_rfl) (by kernel_rfl) (fun _ _ _ h => h) (by rfl) (by (intro _w _hSw; (try dsimp only at _hSw); go_simp)) (by assumption) ?_
      simp only [Act.put, List.setIfInBounds_toArray, List.set_cons_zero, List.set_cons_succ]
      refine takeV 18 (some 35) ((.int .i64 j)) rfl rfl (by kernel_rfl) (by kernel_rfl) (by kernel_rfl) (fun _ _ _ h => h) (by rfl) (by (intro _w _hSw; (try dsimp only at _hSw); go_simp)) (by assumption) ?_
      simp only [Act.put, List.setIfInBounds_toArray, List.set_cons_zero, List.set_cons_succ]
      refine takeV 19 (some 36) ((.pointer (some ⟨b', o' + j * 6, none⟩))) rfl rfl (by kernel_rfl) (by kernel_rfl) (by kernel_rfl) (fun _ _ _ h => h) (by rfl) (by (intro _w _hSw; (try dsimp only at _hSw); go_simp)) (by assumption) ?_
      simp only [Act.put, List.setIfInBounds_toArray, List.set_cons_zero, List.set_cons_succ]
      refine takeV 20 (some 37) ((.pointer (some ⟨b', o' + j * 6 + 1, none⟩))) rfl rfl (by kernel_rfl) (by kernel_rfl) (by kernel_rfl) (fun _ _ _ h => h) (by rfl) (by (intro _w _hSw; (try dsimp only at _hSw); go_simp)) (by assumption) ?_
      simp only [Act.put, List.setIfInBounds_toArray, List.set_cons_zero, List.set_cons_succ]
      refine takeV 21 (some 38) ((.int .i64 f.a)) rfl rfl (by kernel_rfl) (by kernel_rfl) (by kernel_rfl) (fun _ _ _ h => h) (by rfl) (by (intro _w hSw; have q0 := hSw.2.1.2.1; clear hSw; go_simp)) (by assumption) ?_
      simp only [Act.put, List.setIfInBounds_toArray, List.set_cons_zero, List.set_cons_succ]
      refine takeV 22 (some 39) ((.bool false)) rfl rfl (by kernel_rfl) (by kernel_rfl) (by kernel_rfl) (fun _ _ _ h => h) (by rfl) (by (intro _w _hSw; (try dsimp only at _hSw); go_simp)) (by assumption) ?_
      simp only [Act.put, List.setIfInBounds_toArray, List.set_cons_zero, List.set_cons_succ]
      refine takeV 23 (some 40) ((.bool false)) rfl rfl (by kernel_rfl) (by kernel_rfl) (by kernel_rfl) (fun _ _ _ h => h) (by rfl) (by (intro _w _hSw; (try dsimp only at _hSw); go_simp)) (by assumption) ?_
      simp only [Act.put, List.setIfInBounds_toArray, List.set_cons_zero, List.set_cons_succ]
      refine takeV 24 (some 41) ((.bool false)) rfl rfl (by kernel_rfl) (by kernel_rfl) (by kernel_rfl) (fun _ _ _ h => h) (by rfl) (by (intro _w _hSw; (try dsimp only at _hSw); go_simp)) (by assumption) ?_
      simp only [Act.put, List.setIfInBounds_toArray, List.set_cons_zero, List.set_cons_succ]
      refine takeV 25 (some 42) ((.slice (some ⟨b, o, none⟩) fs.length c)) rfl rfl (by kernel_rfl) (by kernel_rfl) (by kernel_rfl) (fun _ _ _ h => h) (by rfl) (by (intro _w _hSw; (try dsimp only at _hSw); go_simp)) (by assumption) ?_
      simp only [Act.put, List.setIfInBounds_toArray, List.set_cons_zero, List.set_cons_succ]
      refine takeV 26 (some 43) ((.int .i64 j)) rfl rfl (by kernel_rfl) (by kernel_rfl) (by kernel_rfl) (fun _ _ _ h => h) (by rfl) (by (intro _w _hSw; (try dsimp only at _hSw); go_simp)) (by assumption) ?_
      simp only [Act.put, List.setIfInBounds_toArray, List.set_cons_zero, List.set_cons_succ]
      refine takeV 27 (some 44) ((.pointer (some ⟨b, o + j * 6, none⟩))) rfl rfl (by kernel_rfl) (by kernel_rfl) (by kernel_rfl) (fun _ _ _ h => h) (by rfl) (by (intro _w _hSw; (try dsimp only at _hSw); go_simp)) (by assumption) ?_
      simp only [Act.put, List.setIfInBounds_toArray, List.set_cons_zero, List.set_cons_succ]
      refine takeV 28 (some 45) ((.pointer (some ⟨b, o + j * 6 + 2, none⟩))) rfl rfl (by kernel_rfl) (by kernel_rfl) (by kernel_rfl) (fun _ _ _ h => h) (by rfl) (by (intro _w _hSw; (try dsimp only at _hSw); go_simp)) (by assumption) ?_
      simp only [Act.put, List.setIfInBounds_toArray, List.set_cons_zero, List.set_cons_succ]
      refine takeV 29 (some 46) ((.agg #[.int .i64 f.k, .int .i64 f.m, .string f.s])) rfl rfl (by kernel_rfl) (by kernel_rfl) (by kernel_rfl) (fun _ _ _ h => h) (by rfl) (by (intro _w hSw; have q0 := hSw.1.2.2.1; have q1 := hSw.1.2.2.2.1; have q2 := hSw.1.2.2.2.2.1; clear hSw; go_simp)) (by assumption) ?_
      simp only [Act.put, List.setIfInBounds_toArray, List.set_cons_zero, List.set_cons_succ]
      refine takeV 30 (some 47) ((.slice (some ⟨b', o', none⟩) fs.length c')) rfl rfl (by kernel_rfl) (by kernel_rfl) (by kernel_rfl) (fun _ _ _ h => h) (by rfl) (by (intro _w _hSw; (try dsimp only at _hSw); go_simp)) (by assumption) ?_
      simp only [Act.put, List.setIfInBounds_toArray, List.set_cons_zero, List.set_cons_succ]
      refine takeV 31 (some 48) ((.int .i64 j)) rfl rfl (by kernel_rfl) (by kernel_rfl) (by kernel_rfl) (fun _ _ _ h => h) (by rfl) (by (intro _w _hSw; (try dsimp only at _hSw); go_simp)) (by assumption) ?_
      simp only [Act.put, List.setIfInBounds_toArray, List.set_cons_zero, List.set_cons_succ]
      refine takeV 32 (some 49) ((.pointer (some ⟨b', o' + j * 6, none⟩))) rfl rfl (by kernel_rfl) (by kernel_rfl) (by kernel_rfl) (fun _ _ _ h => h) (by rfl) (by (intro _w _hSw; (try dsimp only at _hSw); go_simp)) (by assumption) ?_
      simp only [Act.put, List.setIfInBounds_toArray, List.set_cons_zero, List.set_cons_succ]
      refine takeV 33 (some 50) ((.pointer (some ⟨b', o' + j * 6 + 2, none⟩))) rfl rfl (by kernel_rfl) (by kernel_rfl) (by kernel_rfl) (fun _ _ _ h => h) (by rfl) (by (intro _w _hSw; (try dsimp only at _hSw); go_simp)) (by assumption) ?_
      simp only [Act.put, List.setIfInBounds_toArray, List.set_cons_zero, List.set_cons_succ]
      refine takeV 34 (some 51) ((.agg #[.int .i64 f.k, .int .i64 f.m, .string f.s])) rfl rfl (by kernel_rfl) (by kernel_rfl) (by kernel_rfl) (fun _ _ _ h => h) (by rfl) (by (intro _w hSw; have q0 := hSw.2.1.2.2.1; have q1 := hSw.2.1.2.2.2.1; have q2 := hSw.2.1.2.2.2.2.1; clear hSw; go_simp)) (by assumption) ?_
      simp only [Act.put, List.setIfInBounds_toArray, List.set_cons_zero, List.set_cons_succ]
      refine takeV 35 (some 52) ((.bool false)) rfl rfl (by kernel_rfl) (by kernel_rfl) (by kernel_rfl) (fun _ _ _ h => h) (by rfl) (by (intro _w _hSw; (try dsimp only at _hSw); go_simp)) (by assumption) ?_
      simp only [Act.put, List.setIfInBounds_toArray, List.set_cons_zero, List.set_cons_succ]
      refine takeV 36 (some 53) ((.bool false)) rfl rfl (by kernel_rfl) (by kernel_rfl) (by kernel_rfl) (fun _ _ _ h => h) (by rfl) (by (intro _w _hSw; (try dsimp only at _hSw); go_simp)) (by assumption) ?_
      simp only [Act.put, List.setIfInBounds_toArray, List.set_cons_zero, List.set_cons_succ]
      refine takeV 37 (some 54) ((.bool false)) rfl rfl (by kernel_rfl) (by kernel_rfl) (by kernel_rfl) (fun _ _ _ h => h) (by rfl) (by (intro _w _hSw; (try dsimp only at _hSw); go_simp)) (by assumption) ?_
      simp only [Act.put, List.setIfInBounds_toArray, List.set_cons_zero, List.set_cons_succ]
      refine takeV 38 (some 55) ((.slice (some ⟨b, o, none⟩) fs.length c)) rfl rfl (by kernel_rfl) (by kernel_rfl) (by kernel_rfl) (fun _ _ _ h => h) (by rfl) (by (intro _w _hSw; (try dsimp only at _hSw); go_simp)) (by assumption) ?_
      simp only [Act.put, List.setIfInBounds_toArray, List.set_cons_zero, List.set_cons_succ]
      refine takeV 39 (some 56) ((.int .i64 j)) rfl rfl (by kernel_rfl) (by kernel_rfl) (by kernel_rfl) (fun _ _ _ h => h) (by rfl) (by (intro _w _hSw; (try dsimp only at _hSw); go_simp)) (by assumption) ?_
      simp only [Act.put, List.setIfInBounds_toArray, List.set_cons_zero, List.set_cons_succ]
      refine takeV 40 (some 57) ((.pointer (some ⟨b, o + j * 6, none⟩))) rfl rfl (by kernel_rfl) (by kernel_rfl) (by kernel_rfl) (fun _ _ _ h => h) (by rfl) (by (intro _w _hSw; (try dsimp only at _hSw); go_simp)) (by assumption) ?_
      simp only [Act.put, List.setIfInBounds_toArray, List.set_cons_zero, List.set_cons_succ]
      refine takeV 41 (some 58) ((.pointer (some ⟨b, o + j * 6 + 5, none⟩))) rfl rfl (by kernel_rfl) (by kernel_rfl) (by kernel_rfl) (fun _ _ _ h => h) (by rfl) (by (intro _w _hSw; (try dsimp only at _hSw); go_simp)) (by assumption) ?_
      simp only [Act.put, List.setIfInBounds_toArray, List.set_cons_zero, List.set_cons_succ]
      refine takeV 42 (some 59) ((.slice As f.l.length cs)) rfl rfl (by kernel_rfl) (by kernel_rfl) (by kernel_rfl) (fun _ _ _ h => h) (by rfl) (by (intro _w hSw; have q0 := hSw.1.2.2.2.2.2; clear hSw; go_simp)) (by assumption) ?_
      simp only [Act.put, List.setIfInBounds_toArray, List.set_cons_zero, List.set_cons_succ]
      refine takeV 43 (some 60) ((.slice (some ⟨b', o', none⟩) fs.length c')) rfl rfl (by kernel_rfl) (by kernel_rfl) (by kernel_rfl) (fun _ _ _ h => h) (by rfl) (by (intro _w _hSw; (try dsimp only at _hSw); go_simp)) (by assumption) ?_
      simp only [Act.put, List.setIfInBounds_toArray, List.set_cons_zero, List.set_cons_succ]
      refine takeV 44 (some 61) ((.int .i64 j)) rfl rfl (by kernel_rfl) (by kernel_rfl) (by kernel_rfl) (fun _ _ _ h => h) (by rfl) (by (intro _w _hSw; (try dsimp only at _hSw); go_simp)) (by assumption) ?_
      simp only [Act.put, List.setIfInBounds_toArray, List.set_cons_zero, List.set_cons_succ]
      refine takeV 45 (some 62) ((.pointer (some ⟨b', o' + j * 6, none⟩))) rfl rfl (by kernel_rfl) (by kernel_rfl) (by kernel_rfl) (fun _ _ _ h => h) (by rfl) (by (intro _w _hSw; (try dsimp only at _hSw); go_simp)) (by assumption) ?_
      simp only [Act.put, List.setIfInBounds_toArray, List.set_cons_zero, List.set_cons_succ]
      refine takeV 46 (some 63) ((.pointer (some ⟨b', o' + j * 6 + 5, none⟩))) rfl rfl (by kernel_rfl) (by kernel_rfl) (by kernel_rfl) (fun _ _ _ h => h) (by rfl) (by (intro _w _hSw; (try dsimp only at _hSw); go_simp)) (by assumption) ?_
      simp only [Act.put, List.setIfInBounds_toArray, List.set_cons_zero, List.set_cons_succ]
      refine takeV 47 (some 64) ((.slice Bs f.l.length ds)) rfl rfl (by kernel_rfl) (by kernel_rfl) (by kernel_rfl) (fun _ _ _ h => h) (by rfl) (by (intro _w hSw; have q0 := hSw.2.1.2.2.2.2.2; clear hSw; go_simp)) (by assumption) ?_
      simp only [Act.put, List.setIfInBounds_toArray, List.set_cons_zero, List.set_cons_succ]
      refine callV 48 rfl (by kernel_rfl) (by rfl) (fun K hK => ?_)
      go_simp
      refine (sameS_any As Bs cs ds f.l wd wd.heap.size HSa.out HSb.out hfl).mono ?_
      rintro e w8 ⟨rfl, k, rfl⟩
      refine hK.out _ _ (SmSA.next hHeld (below_dn (Below.refl _ wd) k)) (fun hHeld2 => ?_)
      clear hK K hHeld
      try simp only [Act.put, List.setIfInBounds_toArray, List.set_cons_zero, List.set_cons_succ]
      refine takeV 49 (some 66) ((.bool false)) rfl rfl (by kernel_rfl) (by kernel_rfl) (by kernel_rfl) (fun _ _ _ h => h) (by rfl) (by (intro _w _hSw; (try dsimp only at _hSw); go_simp)) (by assumption) ?_
      simp only [Act.put, List.setIfInBounds_toArray, List.set_cons_zero, List.set_cons_succ]
      refine takeV 50 (some 67) ((.bool false)) rfl rfl (by kernel_rfl) (by kernel_rfl) (by kernel_rfl) (fun _ _ _ h => h) (by rfl) (by (intro _w _hSw; (try dsimp only at _hSw); go_simp)) (by assumption) ?_
      simp only [Act.put, List.setIfInBounds_toArray, List.set_cons_zero, List.set_cons_succ]
      refine wpAnyH_done (by kernel_rfl) ?_ _
      have HBk := Lib.hid (below_dn HBd.out k)
      go_wp2
      go_roundg g
      case measure => omega
      case rel => exact ⟨j + 1, by go_num, by omega, HBk.out⟩
    | zero =>
      have hji : ¬ (j : Int) < (fs.length : Int) := by omega
      go_wp2
      go_ret
      exact ⟨rfl, HB.out⟩
end Go.Proofs.YthhkabbgghepbaaGreat


/-
  CONTRACT: Changes.
-/
namespace Go.Proofs.YthhkabbgghepbaaGreat
open Go.RowKit Go.Shelf

/-- What Changes answers. -/
def ChgEnd (w : World) (old now : List FactP) (t : Int) (e : Ending) (w' : World) : Prop :=
  (∃ v ec, e = .returned (.tuple #[v, .int .i64 ec]) ∧ ((mayFs old = true ∧ mayFs now = true ∧ txB t = true ∧ ec = 0 ∧ OwnD w' w.heap.size v (chgL old now t)) ∨ ((mayFs old && mayFs now) = false ∧ ec = 60 ∧ v = .slice none 0 0) ∨ (mayFs old = true ∧ mayFs now = true ∧ txB t = false ∧ ec = 2 ∧ v = .slice none 0 0))) ∧ Below w.heap.size w w'
set_option maxRecDepth 100000 in
set_option maxHeartbeats 4000000 in
theorem changes_any (t : Int) (A B : Option Addr) (c d : Nat) (old now : List FactP) (w : World) (ha : FVa w (.slice A old.length c) old) (hb : FVa w (.slice B now.length d) now) (hla : old.length ≤ 100000) (hlb : now.length ≤ 100000)
    (hza : ∀ f ∈ old, f.s.size ≤ maxLen ∧ f.l.length ≤ 100000) (hzb : ∀ f ∈ now, f.s.size ≤ maxLen ∧ f.l.length ≤ 100000) (hka : ∀ f ∈ old, ∀ q ∈ f.l, SpOk q) (hkb : ∀ f ∈ now, ∀ q ∈ f.l, SpOk q) (hs : sumS old + sumS now ≤ 5000) :
    Calls Tryz.prog 20 #[.slice A old.length c, .slice B now.length d, .int .i64 t] w (ChgEnd w old now t) := by
  obtain ⟨w0, hw0⟩ : ∃ w0, w.alloc (.cells #[.int .i64 t] 2) = w0 := ⟨_, rfl⟩
  have hb0 : Below w.heap.size w w0 := by rw [← hw0]; exact (Below.refl _ w).alloc (Nat.le_refl _) _
  have HT0 : Hid (Boxed w0 w.heap.size 2 (.int .i64 t)) := by rw [← hw0]; exact Boxed.new w _ _
  have HB0 := Lib.hid hb0
  have HF := Lib.hid (And.intro ha hb)
  have HC1 := Lib.hid (mayFs_any A c old w0 (ha.next hb0) hla hza)
  have HC2 := Lib.hid (fun X (h : Below w.heap.size w X) => mayFs_any B d now X (hb.next h) hlb hzb)
  have HKA := Lib.hid (And.intro hka hkb)
  clear ha hb hb0 hza hzb hka hkb
  obtain ⟨m1, hm1⟩ : ∃ m, mayFs old = m := ⟨_, rfl⟩
  obtain ⟨m2, hm2⟩ : ∃ m, mayFs now = m := ⟨_, rfl⟩
  rw [hm1] at HC1
  rw [hm2] at HC2
  have HM1 := Lib.hid hm1
  have HM2 := Lib.hid hm2
  clear hm1 hm2
  go_enter Tryz.func20, Tryz.ntmps20
  go_upto_region 1 with (fail)
  try rw [hw0]
  clear hw0
  go_wp2_with fail
  refine HC1.out.mono ?_
  rintro en w1 ⟨rfl, hb1⟩
  have HB1 := Lib.hid (HB0.out.trans (hb1.mono HB0.out.size))
  have HT1 : Hid (Boxed w1 w.heap.size 2 (.int .i64 t)) := (hb1.block _ HT0.out.lt).trans HT0.out
  clear hb1 HC1
  cases m1
  · go_wp2
    go_ret2
    exact ⟨⟨_, _, rfl, .inr (.inl ⟨by rw [HM1.out]; rfl, rfl, rfl⟩)⟩, HB1.out⟩
  have HC3 := Lib.hid (HC2.out w1 HB1.out)
  go_wp2_with fail
  refine HC3.out.mono ?_
  rintro en w2 ⟨rfl, hb2⟩
  have HB2 := Lib.hid (HB1.out.trans (hb2.mono HB1.out.size))
  have HT2 : Hid (Boxed w2 w.heap.size 2 (.int .i64 t)) := (hb2.block _ HT1.out.lt).trans HT1.out
  clear hb2 HC2 HC3
  cases m2
  · go_wp2
    go_ret2
    exact ⟨⟨_, _, rfl, .inr (.inl ⟨by rw [HM2.out]; simp, rfl, rfl⟩)⟩, HB2.out⟩
  have t0 := HT2.out.cell
  by_cases ht1 : t < 1
  · have e1 : decide (t < 1) = true := decide_eq_true ht1
    have HN : Hid (txB t = false) := decide_eq_false (by omega)
    go_wp2
    go_ret2
    exact ⟨⟨_, _, rfl, .inr (.inr ⟨HM1.out, HM2.out, HN.out, rfl, rfl⟩)⟩, HB2.out⟩
  have e1 : decide (t < 1) = false := decide_eq_false ht1
  by_cases ht2 : 1099511627776 < t
  · have e2 : decide (1099511627776 < t) = true := decide_eq_true ht2
    have HN : Hid (txB t = false) := decide_eq_false (by omega)
    go_wp2
    go_ret2
    exact ⟨⟨_, _, rfl, .inr (.inr ⟨HM1.out, HM2.out, HN.out, rfl, rfl⟩)⟩, HB2.out⟩
  have e2 : decide (1099511627776 < t) = false := decide_eq_false ht2
  have HTX : Hid (txB t = true) := decide_eq_true (by omega)
  obtain ⟨w3, hw3⟩ : ∃ w3, (w2.alloc (.cells #[.slice none 0 0] 22)).alloc (.cells #[.func (.func 48) #[] #[.pointer (some ⟨w2.heap.size, 0, none⟩), .pointer (some ⟨w.heap.size, 0, none⟩)]] 96) = w3 := ⟨_, rfl⟩
  have hb3 : Below w2.heap.size w2 w3 := by rw [← hw3]; exact ((Below.refl _ w2).alloc (Nat.le_refl _) _).alloc (by simp) _
  have hz2 := HB2.out.size
  have HW3 : Hid (ChgW w t w2.heap.size w.heap.size (w2.heap.size + 1) [] w3) := by
    refine ⟨⟨.slice none 0 0, ?_, World.ownsRow_nil _ _ _ _⟩, (hb3.block _ HT2.out.lt).trans HT2.out, ?_, HB2.out.trans (hb3.mono HB2.out.size)⟩
    · rw [← hw3]; exact (Boxed.new w2 22 (.slice none 0 0)).alloc _
    · rw [← hw3]
      have := Boxed.new (w2.alloc (.cells #[.slice none 0 0] 22)) 96 (sayV w2.heap.size w.heap.size)
      rwa [World.size_alloc] at this
  have hsz3 : w3.heap.size = w2.heap.size + 2 := by rw [← hw3]; simp
  have hlt0 := HT2.out.lt
  have good : ∀ l : List FactP, mayFs l = true → (∀ f ∈ l, ∀ q ∈ f.l, SpOk q) → GoodF l := fun l h hk f hf => by
    have h1 := (of_decide_eq_true h).1 f hf
    unfold mayF at h1
    simp only [Bool.and_eq_true] at h1
    exact ⟨of_decide_eq_true h1.2, hk f hf⟩
  have HTG := Lib.hid (together_any t w2.heap.size w.heap.size (w2.heap.size + 1) A B c d old now [] w w3 HF.out.1 HF.out.2 HW3.out rfl hz2 (by omega) (by omega) (by omega) (by omega) (by omega) (good old HM1.out HKA.out.1) (good now HM2.out HKA.out.2) hs)
  clear hb3 good hsz3 ht1 ht2
  go_upto_region 7 with (fail)
  try rw [hw3]
  clear hw3
  go_wp2_with fail
  refine HTG.out.mono ?_
  rintro en w4 ⟨rfl, hcw⟩
  obtain ⟨v, hv1, hv2⟩ := hcw.row
  have z0 := hv1.cell
  have HV := Lib.hid hv2
  have HB4 := Lib.hid hcw.below
  clear hcw hv1 HTG
  obtain ⟨A9, c9, rfl, _⟩ := hv2.form
  clear hv2
  go_wp2
  go_ret2
  exact ⟨⟨_, _, rfl, .inl ⟨HM1.out, HM2.out, HTX.out, rfl, HV.out⟩⟩, HB4.out⟩
end Go.Proofs.YthhkabbgghepbaaGreat

/-
  CONTRACTS: isMark, facts.Datoms, facts.Of (with no instant asked).
-/
namespace Go.Proofs.YthhkabbgghepbaaGreat
open Go.RowKit Go.Shelf

def markB (n : Int) : Bool := decide (0 ≤ n ∧ n ≤ 1099511627776)
set_option maxHeartbeats 400000 in
theorem isMark_any (n : Int) (w : World) : Calls Tryz.prog 42 #[.int .i64 n] w fun e w' => e = .returned (.bool (markB n)) ∧ w = w' := by
  by_cases h0 : 0 ≤ n
  · by_cases h1 : n ≤ 1099511627776
    · have e : Hid (markB n = true) := by show _ = _; unfold markB; simp [h0, h1]
      go_enter Tryz.func42, Tryz.ntmps42
      go_wp2
      go_ret
      exact ⟨by rw [e.out]; rfl, rfl⟩
    · have e : Hid (markB n = false) := by show _ = _; unfold markB; simp [h1]
      go_enter Tryz.func42, Tryz.ntmps42
      go_wp2
      go_ret
      exact ⟨by rw [e.out]; rfl, rfl⟩
  · have e : Hid (markB n = false) := by show _ = _; unfold markB; simp; omega
    have h0' : decide (0 ≤ n) = false := decide_eq_false h0
    go_enter Tryz.func42, Tryz.ntmps42
    go_wp2
    go_ret
    exact ⟨by rw [e.out]; rfl, rfl⟩
/-- a view has a datom -/
def seesB (a s : Int) (d : Dat) : Bool := decide (s < d.t) && (decide (a = 0) || decide (d.t ≤ a))
/-- a view in a box -/
def VwAt (W : World) (b : Nat) (a s v : Int) (at_ hist : Bool) : Prop := W.heap[b]? = some (.cells #[.int .i64 a, .int .i64 s, .int .i64 v, .bool at_, .bool hist] 24 (0, 0))
theorem VwAt.cell {W : World} {b : Nat} {a s v : Int} {at_ hist : Bool} (h : VwAt W b a s v at_ hist) (j : Nat) : W.cell? ⟨b, j, none⟩ = (#[Value.int .i64 a, .int .i64 s, .int .i64 v, .bool at_, .bool hist])[j]? := by unfold VwAt at h; simp [World.cell?, h]
theorem VwAt.k0 {W : World} {b : Nat} {a s v : Int} {at_ hist : Bool} (h : VwAt W b a s v at_ hist) : W.cell? ⟨b, 0, none⟩ = some (.int .i64 a) := h.cell 0
theorem VwAt.k1 {W : World} {b : Nat} {a s v : Int} {at_ hist : Bool} (h : VwAt W b a s v at_ hist) : W.cell? ⟨b, 1, none⟩ = some (.int .i64 s) := h.cell 1
theorem VwAt.k2 {W : World} {b : Nat} {a s v : Int} {at_ hist : Bool} (h : VwAt W b a s v at_ hist) : W.cell? ⟨b, 2, none⟩ = some (.int .i64 v) := h.cell 2
theorem VwAt.k3 {W : World} {b : Nat} {a s v : Int} {at_ hist : Bool} (h : VwAt W b a s v at_ hist) : W.cell? ⟨b, 3, none⟩ = some (.bool at_) := h.cell 3
theorem VwAt.k4 {W : World} {b : Nat} {a s v : Int} {at_ hist : Bool} (h : VwAt W b a s v at_ hist) : W.cell? ⟨b, 4, none⟩ = some (.bool hist) := h.cell 4
theorem VwAt.lt {W : World} {b : Nat} {a s v : Int} {at_ hist : Bool} (h : VwAt W b a s v at_ hist) : b < W.heap.size := (Array.getElem?_eq_some_iff.1 h).1
theorem VwAt.next {W W' : World} {b B : Nat} {a s v : Int} {at_ hist : Bool} (h : VwAt W b a s v at_ hist) (hb : Below B W W') (hB : b < B) : VwAt W' b a s v at_ hist := (hb.block b hB).trans h
/-- What facts.Datoms answers. -/
def DtsEnd (w : World) (a s : Int) (l : List Dat) (e : Ending) (w' : World) : Prop :=
  (∃ A c n ec, e = .returned (.tuple #[.slice A n c, .int .i64 ec]) ∧ ((markB a = true ∧ markB s = true ∧ ec = 0 ∧ n = (sortsD 1 (l.filter (seesB a s))).length ∧ SlD w' w'.heap.size A (sortsD 1 (l.filter (seesB a s)))) ∨ ((markB a && markB s) = false ∧ ec = 2 ∧ A = none ∧ n = 0 ∧ c = 0))) ∧ Below w.heap.size w w'
set_option maxRecDepth 100000 in
set_option maxHeartbeats 4000000 in
theorem datomsF_any (a s v : Int) (at_ hist : Bool) (A : Option Addr) (c : Nat) (l : List Dat) (w : World) (hs : SlD w w.heap.size A l) (hl : l.length ≤ 1000000) :
    Calls Tryz.prog 12 #[.slice A l.length c, .agg #[.int .i64 a, .int .i64 s, .int .i64 v, .bool at_, .bool hist]] w (DtsEnd w a s l) := by
  obtain ⟨i0, hi, hz0, hz1, hz2⟩ := info_parts infoD
  have hmx : 2000000000000 ≤ maxLen := by decide
  have HS := Lib.hid hs
  clear hs
  obtain ⟨w0, hw0⟩ : ∃ w0, w.alloc (.cells #[.int .i64 a, .int .i64 s, .int .i64 v, .bool at_, .bool hist] 24) = w0 := ⟨_, rfl⟩
  have HZ0 : Hid (w0.heap.size = w.heap.size + 1) := by rw [← hw0]; show _ = _; simp
  have HB0 : Hid (Below w.heap.size w w0) := by rw [← hw0]; exact (Below.refl _ _).alloc (Nat.le_refl _) _
  have HVW : Hid (VwAt w0 w.heap.size a s v at_ hist) := by rw [← hw0]; exact heap_alloc_new w _
  have k0 := HVW.out.k0
  have k1 := HVW.out.k1
  go_enter Tryz.func12, Tryz.ntmps12
  go_upto_region 1 with (fail)
  try rw [hw0]
  clear hw0
  go_wp2_with fail
  refine (isMark_any a _).mono ?_
  rintro e w' ⟨rfl, rfl⟩
  obtain ⟨ma, hma⟩ : ∃ m, markB a = m := ⟨_, rfl⟩
  rw [hma]
  have HMA := Lib.hid hma
  clear hma
  cases ma
  · go_wp2
    go_ret2
    exact ⟨⟨_, _, _, _, rfl, .inr ⟨by rw [HMA.out]; rfl, rfl, rfl, rfl, rfl⟩⟩, HB0.out⟩
  go_wp2_with fail
  refine (isMark_any s _).mono ?_
  rintro e w' ⟨rfl, rfl⟩
  obtain ⟨ms, hms⟩ : ∃ m, markB s = m := ⟨_, rfl⟩
  rw [hms]
  have HMS := Lib.hid hms
  clear hms
  cases ms
  · go_wp2
    go_ret2
    exact ⟨⟨_, _, _, _, rfl, .inr ⟨by rw [HMS.out]; simp, rfl, rfl, rfl, rfl⟩⟩, HB0.out⟩
  clear k0 k1
  go_wp2
  go_loopg [6, 8, 21] l.length (fun g x6 _ x21 wr => ∃ j : Nat, OwnD wr (w.heap.size + 1) x6 ((l.take j).filter (seesB a s)) ∧ x21 = .int .i64 j ∧ j + g = l.length ∧ Hid (Below (w.heap.size + 1) w0 wr) ∧ w.heap.size + 1 ≤ wr.heap.size)
  case atStart => exact ⟨0, World.ownsRow_nil _ _ _ _, rfl, by omega, Below.refl _ _, by have := HZ0.out; omega⟩
  case round =>
    obtain ⟨j, ho, rfl, hj, HB, hsz⟩ := hrel
    have hfl : ((l.take j).filter (seesB a s)).length ≤ j := Nat.le_trans (List.length_filter_le _ _) (List.length_take_le _ _)
    cases gk with
    | zero =>
      obtain rfl : j = l.length := by omega
      have hji : ¬ ((l.length : Int) < (l.length : Int)) := by omega
      rw [List.take_length] at ho hfl
      have HBW : Hid (Below w.heap.size w wr) := HB0.out.trans (HB.out.mono (Nat.le_succ _))
      obtain ⟨A1, c1, rfl, hs1, _, _, _, _⟩ := ho.form
      have HSD := Lib.hid (sortedD_any 1 A1 c1 (l.filter (seesB a s)) wr hs1 (by omega))
      clear ho hs1
      go_wp2_with fail
      refine HSD.out.mono ?_
      rintro e w2 ⟨A2, c2, rfl, h2, hb2⟩
      have HS2 := Lib.hid h2
      have HB2 := Lib.hid (HBW.out.trans (hb2.mono HBW.out.size))
      clear h2 hb2
      go_wp2
      go_ret2
      exact ⟨⟨_, _, _, _, rfl, .inl ⟨HMA.out, HMS.out, rfl, rfl, HS2.out⟩⟩, HB2.out⟩
    | succ g =>
      have hji : (j : Int) < (l.length : Int) := by omega
      have hjn : j < l.length := by omega
      have HBW : Hid (Below w.heap.size w wr) := HB0.out.trans (HB.out.mono (Nat.le_succ _))
      obtain ⟨b, q, rfl, hbl, hp⟩ := (HS.out.next HBW.out (Nat.le_refl _)).at_ hjn
      have hft := filter_take (seesB a s) hjn
      obtain ⟨x, hpe⟩ : ∃ p, l[j] = p := ⟨_, rfl⟩
      rw [hpe] at hp hft
      obtain ⟨L, hL⟩ : ∃ L, (l.take j).filter (seesB a s) = L := ⟨_, rfl⟩
      rw [hL] at ho hfl hft
      obtain ⟨A1, c1, rfl, _, _, _, _, _⟩ := ho.form
      have HO := Lib.hid ho
      have HFT := Lib.hid hft
      have m0 := hp.c0
      have m1 := hp.c1
      have m2 := hp.c2
      have m3 := hp.c3
      have m4 := hp.c4
      have m5 := hp.c5
      have m6 := hp.c6
      have m7 := hp.c7
      have m8 := hp.c8
      have HD : Hid (DatAt (wr.alloc (.cells #[.int .i64 x.e, .int .i64 x.a, .int .i64 x.k, .int .i64 x.m, .string x.s, .int .i64 x.t, .bool x.add, .int .i64 x.fr, .int .i64 x.til] 46)) wr.heap.size x) := datAt_new wr x
      have HBZ : Hid (Below wr.heap.size wr (wr.alloc (.cells #[.int .i64 x.e, .int .i64 x.a, .int .i64 x.k, .int .i64 x.m, .string x.s, .int .i64 x.t, .bool x.add, .int .i64 x.fr, .int .i64 x.til] 46))) := (Below.refl wr.heap.size wr).alloc (Nat.le_refl _) _
      have HVR := Lib.hid (HVW.out.next HB.out (Nat.lt_succ_self _))
      clear ho hft hL hp hpe
      go_upto_region 7 with (fail)
      obtain ⟨wz, hwz⟩ : ∃ wz, (wr.alloc (.cells #[.int .i64 x.e, .int .i64 x.a, .int .i64 x.k, .int .i64 x.m, .string x.s, .int .i64 x.t, .bool x.add, .int .i64 x.fr, .int .i64 x.til] 46)) = wz := ⟨_, rfl⟩
      rw [hwz] at HD HBZ ⊢
      clear hwz m0 m1 m2 m3 m4 m5 m6 m7 m8
      have hvz := HVR.out.next HBZ.out HVR.out.lt
      have k0 := hvz.k0
      have k1 := hvz.k1
      have HO1 := Lib.hid (HO.out.next HBZ.out)
      have HB1 := Lib.hid (HB.out.trans (HBZ.out.mono hsz))
      have HS2 : Hid (w.heap.size + 1 ≤ wz.heap.size) := Nat.le_trans hsz HBZ.out.size
      have z0 := HD.out.c0
      have z1 := HD.out.c1
      have z2 := HD.out.c2
      have z3 := HD.out.c3
      have z4 := HD.out.c4
      have z5 := HD.out.c5
      have z6 := HD.out.c6
      have z7 := HD.out.c7
      have z8 := HD.out.c8
      have HOA : Hid (OwnD (wz.alloc (.cells #[.int .i64 x.e, .int .i64 x.a, .int .i64 x.k, .int .i64 x.m, .string x.s, .int .i64 x.t, .bool x.add, .int .i64 x.fr, .int .i64 x.til] 46)) (w.heap.size + 1) (.slice A1 L.length c1) L) := World.ownsRow.alloc HO1.out _
      have HBA := Lib.hid (HB1.out.alloc HS2.out (.cells #[.int .i64 x.e, .int .i64 x.a, .int .i64 x.k, .int .i64 x.m, .string x.s, .int .i64 x.t, .bool x.add, .int .i64 x.fr, .int .i64 x.til] 46))
      have HLC := Lib.hid (litD wz x)
      have hbs : (w.heap.size + 1 ≤ (wz.alloc (.cells #[.int .i64 x.e, .int .i64 x.a, .int .i64 x.k, .int .i64 x.m, .string x.s, .int .i64 x.t, .bool x.add, .int .i64 x.fr, .int .i64 x.til] 46)).heap.size) := by simp; have := HS2.out; omega
      have HBS := Lib.hid hbs
      clear hbs hvz
      by_cases g1 : s < x.t
      · have e1 : decide (s < x.t) = true := decide_eq_true g1
        by_cases g2 : a = 0
        · have HF : Hid ((l.take (j + 1)).filter (seesB a s) = L ++ [x]) := by show _ = _; rw [HFT.out]; unfold seesB; simp [g1, g2]
          subst g2
          go_wp2_with (at_builtin; refine wpList_append_any rfl _ _ 22 rfl (w.heap.size + 1) 46 i0 (.agg #[.int .i64 0, .int .i64 0, .int .i64 0, .int .i64 0, .string ⟨#[]⟩, .int .i64 0, .bool false, .int .i64 0, .int .i64 0]) 9 80 Tryz.underlying22 hi hz0 hz1 hz2 rfl (by decide) _ _ _ rfl HOA.out (some ⟨wz.heap.size, 0, none⟩) 1 1 ([x].flatMap cellsD) rfl rfl (fun h => by cases h) HLC.out (cellsD_all _) (by omega) (by omega) HBS.out ?_; intro v1 w3 hown hgrow; have HV1 : Hid (OwnD w3 (w.heap.size + 1) v1 (L ++ [x])) := ownD_of hown; have HB3 := Lib.hid (HBA.out.trans (below_ownD HOA.out hgrow HBS.out)); have HS3 : Hid (w.heap.size + 1 ≤ w3.heap.size) := (by have := HB3.out.size; have := HZ0.out; show _ ≤ _; omega); clear hown hgrow z0 z1 z2 z3 z4 z5 z6 z7 z8 k0 k1)
          go_roundg g
          case measure => omega
          case rel => exact ⟨j + 1, by rw [HF.out]; exact HV1.out, by go_num, by omega, HB3.out, HS3.out⟩
        · have e2 : (a == 0) = false := by rw [beq_eq_false_iff_ne]; exact g2
          by_cases g3 : x.t ≤ a
          · have e3 : decide (x.t ≤ a) = true := decide_eq_true g3
            have HF : Hid ((l.take (j + 1)).filter (seesB a s) = L ++ [x]) := by show _ = _; rw [HFT.out]; unfold seesB; simp [g1, g3]
            clear g1 g2 g3
            go_wp2_with (at_builtin; refine wpList_append_any rfl _ _ 22 rfl (w.heap.size + 1) 46 i0 (.agg #[.int .i64 0, .int .i64 0, .int .i64 0, .int .i64 0, .string ⟨#[]⟩, .int .i64 0, .bool false, .int .i64 0, .int .i64 0]) 9 80 Tryz.underlying22 hi hz0 hz1 hz2 rfl (by decide) _ _ _ rfl HOA.out (some ⟨wz.heap.size, 0, none⟩) 1 1 ([x].flatMap cellsD) rfl rfl (fun h => by cases h) HLC.out (cellsD_all _) (by omega) (by omega) HBS.out ?_; intro v1 w3 hown hgrow; have HV1 : Hid (OwnD w3 (w.heap.size + 1) v1 (L ++ [x])) := ownD_of hown; have HB3 := Lib.hid (HBA.out.trans (below_ownD HOA.out hgrow HBS.out)); have HS3 : Hid (w.heap.size + 1 ≤ w3.heap.size) := (by have := HB3.out.size; have := HZ0.out; show _ ≤ _; omega); clear hown hgrow z0 z1 z2 z3 z4 z5 z6 z7 z8 k0 k1)
            go_roundg g
            case measure => omega
            case rel => exact ⟨j + 1, by rw [HF.out]; exact HV1.out, by go_num, by omega, HB3.out, HS3.out⟩
          · have e3 : decide (x.t ≤ a) = false := decide_eq_false g3
            have HF : Hid ((l.take (j + 1)).filter (seesB a s) = L) := by show _ = _; rw [HFT.out]; unfold seesB; simp [g2, g3]
            clear g1 g2 g3
            go_wp2
            go_roundg g
            case measure => omega
            case rel => exact ⟨j + 1, by rw [HF.out]; exact HO1.out, by go_num, by omega, HB1.out, HS2.out⟩
      · have e1 : decide (s < x.t) = false := decide_eq_false g1
        have HF : Hid ((l.take (j + 1)).filter (seesB a s) = L) := by show _ = _; rw [HFT.out]; unfold seesB; simp [g1]
        clear g1
        go_wp2
        go_roundg g
        case measure => omega
        case rel => exact ⟨j + 1, by rw [HF.out]; exact HO1.out, by go_num, by omega, HB1.out, HS2.out⟩

/-- what Of answers of a view that asks no instant -/
def OfU (l : List Dat) (a s : Int) (W : World) (v : Value) (ec : Int) : Prop := (markB a = true ∧ markB s = true ∧ FoldU (l.filter (seesB a s)) W v ec) ∨ ((markB a && markB s) = false ∧ ec = 2 ∧ v = .slice none 0 0)
set_option maxRecDepth 100000 in
set_option maxHeartbeats 2000000 in
theorem of_any (a s v : Int) (A : Option Addr) (c : Nat) (l : List Dat) (w : World) (hs : SlD w w.heap.size A l) (hl : l.length ≤ 5000) (hz : ∀ d ∈ l, d.s.size ≤ maxLen) (hk : ∀ d ∈ l, SpOk (spD d)) (hfew : (l.filter (seesB a s)).length ≤ 3000 ∨ notMay (l.filter (seesB a s)) = true) :
    Calls Tryz.prog 14 #[.slice A l.length c, .agg #[.int .i64 a, .int .i64 s, .int .i64 v, .bool false, .bool false]] w fun e w' => ∃ u ec, e = .returned (.tuple #[u, .int .i64 ec]) ∧ OfU l a s w' u ec ∧ Below w.heap.size w w' := by
  obtain ⟨w0, hw0⟩ : ∃ w0, w.alloc (.cells #[.int .i64 a, .int .i64 s, .int .i64 v, .bool false, .bool false] 24) = w0 := ⟨_, rfl⟩
  have hb0 : Below w.heap.size w w0 := by rw [← hw0]; exact (Below.refl _ _).alloc (Nat.le_refl _) _
  have HB0 := Lib.hid hb0
  have HVW : Hid (VwAt w0 w.heap.size a s v false false) := by rw [← hw0]; exact heap_alloc_new w _
  have HDT := Lib.hid (datomsF_any a s v false false A c l w0 ((hs.next hb0 (Nat.le_refl _)).more hb0.size) (by omega))
  have HZ := Lib.hid hz
  have HK := Lib.hid hk
  have HW := Lib.hid hfew
  have k0 := HVW.out.k0
  have k1 := HVW.out.k1
  have k2 := HVW.out.k2
  have k3 := HVW.out.k3
  have k4 := HVW.out.k4
  clear hs hz hk hfew hb0
  go_enter Tryz.func14, Tryz.ntmps14
  go_upto_region 1 with (fail)
  try rw [hw0]
  clear hw0
  go_wp2_with fail
  refine HDT.out.mono ?_
  rintro e w1 ⟨⟨A1, c1, n1, ec1, rfl, ⟨hma, hms, rfl, rfl, h1⟩ | ⟨hno, rfl, rfl, rfl, rfl⟩⟩, hb1⟩
  · have HM := Lib.hid (And.intro hma hms)
    have HB1 := Lib.hid (HB0.out.trans (hb1.mono HB0.out.size))
    have hvz := HVW.out.next hb1 HVW.out.lt
    have HBX := Lib.hid hb1.size
    have HS1 := Lib.hid h1
    obtain ⟨S, hS⟩ : ∃ S, sortsD 1 (l.filter (seesB a s)) = S := ⟨_, rfl⟩
    have hmem : ∀ x, x ∈ S ↔ x ∈ l.filter (seesB a s) := fun x => by rw [← hS]; exact (sorts_ups _).2 x
    have hml : ∀ x ∈ S, x ∈ l := fun x hx => (List.mem_filter.1 ((hmem x).1 hx)).1
    have hfs := sorts_few (l.filter (seesB a s))
    have hfl := List.length_filter_le (seesB a s) l
    have hSS : (sortsD 1 S).length ≤ S.length := sorts_few S
    have HFU := Lib.hid (fold_u A1 c1 S w1 (by rw [← hS]; exact h1) (by rw [← hS]; omega) (fun d hd => HZ.out d (hml d hd)) (fun d hd => HK.out d (hml d hd)) (fun h => by
      rw [hS] at hfs
      rcases HW.out with h2 | h2
      · exact ⟨by omega, by omega⟩
      · rw [same_may hmem, h2] at h; cases h))
    have HME := Lib.hid hmem
    rw [hS] at HS1
    rw [hS]
    have k3' := hvz.k3
    clear h1 hma hms hb1 hvz hS hmem hml hfs hfl hSS k0 k1 k2 k3 k4
    go_wp2_with fail
    refine HFU.out.mono ?_
    rintro e w2 ⟨u, ec, rfl, hfu, hb2⟩
    have HB2 := Lib.hid (HB1.out.trans (hb2.mono HB1.out.size))
    have k3 := (hb2.cell (p := ⟨w.heap.size, 3, none⟩) (Nat.lt_of_lt_of_le HVW.out.lt (Nat.le_trans (Nat.le_refl _) (by have h1 := HVW.out.lt; have h2 := HB0.out.size; have h3 := HBX.out; omega)))).trans k3'
    have HU : Hid (FoldU (l.filter (seesB a s)) w2 u ec) := by
      have := hfu
      unfold FoldU at this ⊢
      rwa [same_may HME.out, same_sorts HME.out] at this
    clear hb2 k3' HFU
    rcases hfu with ⟨rfl, rfl, _⟩ | ⟨rfl, _, _, fs, _, ⟨A5, c5, rfl, _⟩, _⟩
    · go_wp2
      go_ret2
      exact ⟨_, _, rfl, .inl ⟨HM.out.1, HM.out.2, HU.out⟩, HB2.out⟩
    · go_wp2
      go_ret2
      exact ⟨_, _, rfl, .inl ⟨HM.out.1, HM.out.2, HU.out⟩, HB2.out⟩
  · have HN := Lib.hid hno
    have HB1 := Lib.hid (HB0.out.trans (hb1.mono HB0.out.size))
    clear hb1 hno
    go_wp2
    go_ret2
    exact ⟨_, _, rfl, .inr ⟨HN.out, rfl, rfl⟩, HB1.out⟩
end Go.Proofs.YthhkabbgghepbaaGreat

/-
  THE LAW FactsStay: its walk.
-/
namespace Go.Proofs.YthhkabbgghepbaaGreat
open Go.RowKit Go.Shelf

theorem costD_leU (l : List Dat) (hs : ∀ p ∈ l, p.s.size ≤ 1048576) : costD l ≤ l.length * 1048596 ∧ (l.length : Int) * 20 ≤ costD l := by
  induction l with
  | nil => simp [costD]
  | cons p r ih =>
    have h1 := ih (fun q hq => hs q (by simp [hq]))
    have h2 := hs p (by simp)
    unfold costD at h1 ⊢
    simp only [List.map_cons, List.sum_cons, List.length_cons]
    omega
set_option maxRecDepth 100000 in
set_option maxHeartbeats 2000000 in
theorem greatD_upto (A : Option Addr) (c : Nat) (l : List Dat) (w : World) (B : Nat) (hs : SlD w B A l) (hl : l.length ≤ 1048576) (hz : ∀ d ∈ l, d.s.size ≤ 1048576) :
    Calls Tryz.prog 9 #[.slice A l.length c] w fun e w' => ((e = .returned (.int .i64 0) ∧ l.length ≤ 200) ∨ e = .returned (.int .i64 1)) ∧ w = w' := by
  have HS := Lib.hid hs
  have HZ := Lib.hid hz
  clear hs hz
  go_enter Tryz.func9, Tryz.ntmps9
  go_wp2
  go_loopg [3, 4] l.length (fun g x y wr => ∃ j : Nat, x = .int .i64 (costD (l.take j)) ∧ y = .int .i64 j ∧ j + g = l.length ∧ wr = w)
  case atStart => exact ⟨0, rfl, rfl, by omega, rfl⟩
  case round =>
    obtain ⟨j, rfl, rfl, hj, rfl⟩ := hrel
    cases gk with
    | succ g =>
      have hji : (j : Int) < (l.length : Int) := by omega
      have hjn : j < l.length := by omega
      obtain ⟨b, o, rfl, _, hp⟩ := HS.out.at_ hjn
      have c4 : wr.cell? ⟨b, o + j * 9 + 2 + 2, none⟩ = some (.string l[j].s) := hp.c4
      have hcs := Lib.hid (costD_take hjn)
      have hcl := costD_leU (l.take j) (fun p hp => HZ.out p (List.mem_of_mem_take hp))
      have htl : (l.take j).length ≤ 1048576 := by rw [List.length_take]; omega
      obtain ⟨T, hT⟩ : ∃ T, costD (l.take j) = T := ⟨_, rfl⟩
      rw [hT] at hcl
      rw [hT]
      have hTT : T ≤ 2040000000000000 := by omega
      have hT0 : 0 ≤ T := by omega
      have hsz := HZ.out _ (List.getElem_mem hjn)
      have HT := Lib.hid hT
      clear hp hT hcl htl
      go_wp2
      go_roundg g
      case measure => omega
      case rel => exact ⟨j + 1, by rw [hcs.out, HT.out], by go_num, by omega, rfl⟩
    | zero =>
      have hji : ¬ (j : Int) < (l.length : Int) := by omega
      have ht : l.take j = l := List.take_of_length_le (by omega)
      have hcl := costD_leU l HZ.out
      rw [ht]
      obtain ⟨T, hT⟩ : ∃ T, costD l = T := ⟨_, rfl⟩
      rw [hT] at hcl ⊢
      clear ht hT
      by_cases hn : 4000 < T
      · go_wp2
        go_ret
        exact ⟨.inr rfl, rfl⟩
      · have hl2 : l.length ≤ 200 := by omega
        clear hcl
        go_wp2
        go_ret
        first | exact ⟨.inl ⟨rfl, hl2⟩, rfl⟩ | exact ⟨.inl rfl, rfl⟩
theorem FoldU.next {l : List Dat} {W W' : World} {v : Value} {ec : Int} (h : FoldU l W v ec) (hb : Below W.heap.size W W') : FoldU l W' v ec := by
  rcases h with h | ⟨h1, h2, h3, fs, h4, h5, h6⟩
  · exact .inl h
  · exact .inr ⟨h1, h2, h3, fs, h4, h5.next hb, h6⟩
theorem FoldU.form {l : List Dat} {W : World} {v : Value} {ec : Int} (h : FoldU l W v ec) : ∃ A n c, v = .slice A n c := by
  rcases h with ⟨_, rfl, _⟩ | ⟨_, _, _, fs, _, ⟨A, c, rfl, _⟩, _⟩
  · exact ⟨_, _, _, rfl⟩
  · exact ⟨_, _, _, rfl⟩
theorem sameU_any {l m : List Dat} (h : ∀ x, x ∈ m ↔ x ∈ l) {w : World} {v v' : Value} {ec ec' : Int} (h1 : FoldU l w v ec) (h2 : FoldU m w v' ec') : ec = ec' ∧
    Calls Tryz.prog 16 #[v, v'] w fun e w' => e = .returned (.bool true) ∧ Below w.heap.size w w' := by
  obtain ⟨rfl, hsame⟩ := foldU_same h h1 h2
  refine ⟨rfl, ?_⟩
  rcases hsame with ⟨rfl, rfl⟩ | ⟨fs, q1, q2, q3, q4⟩
  · exact sameF_any none none 0 0 [] w ⟨none, 0, rfl, (fun h => absurd rfl h), Nat.le_refl _, Nat.zero_le _⟩ ⟨none, 0, rfl, (fun h => absurd rfl h), Nat.le_refl _, Nat.zero_le _⟩ (by decide) (fun f hf => by cases hf)
  · obtain ⟨A5, c5, rfl, _⟩ := id q1
    obtain ⟨A6, c6, rfl, _⟩ := id q2
    exact sameF_any A5 A6 c5 c6 fs w q1 q2 (by omega) (fun f hf => by have := q3 f hf; omega)
theorem OfU.fold {l : List Dat} {a s : Int} {W : World} {v : Value} {ec : Int} (h : OfU l a s W v ec) (ha : markB a = true) (hs : markB s = true) : FoldU (l.filter (seesB a s)) W v ec := by
  rcases h with ⟨_, _, h⟩ | ⟨h, _⟩
  · exact h
  · rw [ha, hs] at h; cases h
/-- behind a transaction -/
def lateB (t : Int) (d : Dat) : Bool := decide (t < d.t)
/-- a row kept beside another one that grows -/
theorem OwnD.beside {W w3 : World} {B : Nat} {v u : Value} {l : List Dat} (h : OwnD W B v l) (hg : W.grownBy w3 u.ownBlock) (ha : Ap u v) : OwnD w3 B v l := World.ownsRow.kept h hg (ap_kept ha)

set_option maxRecDepth 100000 in
set_option maxHeartbeats 8000000 in
theorem fStay_any (t : Int) (A A' : Option Addr) (c c' : Nat) (l m : List Dat) (w : World) (hs : SlD w w.heap.size A l) (hs' : SlD w w.heap.size A' m) (hA : A = none → l.length = 0 ∧ c = 0) (hl : l.length ≤ 1048576) (hl' : m.length ≤ 1048576)
    (hz : ∀ d, (d ∈ l ∨ d ∈ m) → d.s.size ≤ 1048576) (hk : ∀ d, (d ∈ l ∨ d ∈ m) → SpOk (spD d)) :
    Calls Tryz.prog 7 #[.slice A l.length c, .slice A' m.length c', .int .i64 t] w fun e w' => e = .returned (.bool true) ∧ Below w.heap.size w w' := by
  obtain ⟨i0, hi, hz0, hz1, hz2⟩ := info_parts infoD
  have hmx : 2000000000000 ≤ maxLen := by decide
  have HS := Lib.hid (And.intro hs hs')
  have HZ := Lib.hid hz
  have HK := Lib.hid hk
  have HA := Lib.hid hA
  clear hs hs' hz hk hA
  go_enter Tryz.func7, Tryz.ntmps7
  go_wp2_with fail
  refine (fAlive_any _).mono ?_
  rintro e w1 ⟨rfl, hb1⟩
  have HB1 := Lib.hid hb1
  have HSL := Lib.hid ((HS.out.1.next hb1 (Nat.le_refl _)).more hb1.size)
  have HSM := Lib.hid ((HS.out.2.next hb1 (Nat.le_refl _)).more hb1.size)
  clear hb1 HS
  have HGL := Lib.hid (greatD_upto A c l w1 _ HSL.out hl (fun d hd => HZ.out d (.inl hd)))
  have HGM := Lib.hid (greatD_upto A' c' m w1 _ HSM.out hl' (fun d hd => HZ.out d (.inr hd)))
  go_wp2_with fail
  refine HGL.out.mono ?_
  rintro e w' ⟨hgr, rfl⟩
  rcases hgr.symm with rfl | ⟨rfl, hlf⟩
  · go_wp2
    go_ret
    exact ⟨rfl, HB1.out⟩
  go_wp2_with fail
  refine HGM.out.mono ?_
  rintro e w' ⟨hgr, rfl⟩
  rcases hgr.symm with rfl | ⟨rfl, hmf⟩
  · go_wp2
    go_ret
    exact ⟨rfl, HB1.out⟩
  by_cases ht1 : t < 1
  · have e1 : decide (t < 1) = true := decide_eq_true ht1
    go_wp2
    go_ret
    exact ⟨rfl, HB1.out⟩
  have e1 : decide (t < 1) = false := decide_eq_false ht1
  by_cases ht2 : 1099511627776 < t
  · have e2 : decide (1099511627776 < t) = true := decide_eq_true ht2
    go_wp2
    go_ret
    exact ⟨rfl, HB1.out⟩
  have e2 : decide (1099511627776 < t) = false := decide_eq_false ht2
  have HMK : Hid (markB t = true) := by show _ = _; unfold markB; simp; omega
  have HMZ : Hid (markB 0 = true) := by show _ = _; decide
  have HNL := Lib.hid (HSL.out.news)
  have HO0 : Hid (OwnD w1 w1.heap.size (.slice none 0 0) []) := World.ownsRow_nil _ _ _ _
  have HT1 : Hid (1 ≤ t) := by show _ ≤ _; omega
  clear ht1 ht2 HGL HGM
  go_wp2_with (at_builtin; refine wpList_append_any rfl _ _ 22 rfl w1.heap.size 46 i0 (.agg #[.int .i64 0, .int .i64 0, .int .i64 0, .int .i64 0, .string ⟨#[]⟩, .int .i64 0, .bool false, .int .i64 0, .int .i64 0]) 9 80 Tryz.underlying22 hi hz0 hz1 hz2 rfl (by decide) _ _ _ rfl HO0.out A l.length c (l.flatMap cellsD) rfl (flatD_len l) HA.out HNL.out (cellsD_all l) (by rw [List.length_nil]; omega) (by rw [List.length_nil]; omega) (Nat.le_refl _) ?_; intro v8 w2 hown' hgrow; have HO8 : Hid (OwnD w2 w1.heap.size v8 l) := ownD_of (a := []) hown'; have HB2 := Lib.hid (below_ownD HO0.out hgrow (Nat.le_refl _)); clear hown' hgrow)
  obtain ⟨lm, hlm⟩ : ∃ q, m.filter (lateB t) = q := ⟨_, rfl⟩
  obtain ⟨ll, hll⟩ : ∃ q, l.filter (lateB t) = q := ⟨_, rfl⟩
  go_loopg [8, 9, 10] m.length (fun g x8 x9 x10 wr => ∃ j : Nat, OwnD wr w1.heap.size x8 (l ++ (m.take j).filter (lateB t)) ∧ OwnD wr w1.heap.size x9 ((m.take j).filter (lateB t)) ∧ Ap x8 x9 ∧ x10 = .int .i64 j ∧ j + g = m.length ∧ Hid (Below w1.heap.size w1 wr))
  case atStart => exact ⟨0, by rw [List.take_zero, List.filter_nil, List.append_nil]; exact HO8.out, World.ownsRow_nil _ _ _ _, (fun g h1 h2 => by cases h2), rfl, by omega, HB2.out⟩
  case round =>
    obtain ⟨j, ho8, ho9, hap, rfl, hj, HB⟩ := hrel
    have hsz := HB.out.size
    have hf9 : ((m.take j).filter (lateB t)).length ≤ j := Nat.le_trans (List.length_filter_le _ _) (List.length_take_le _ _)
    cases gk with
    | succ g =>
      have hji : (j : Int) < (m.length : Int) := by omega
      have hjn : j < m.length := by omega
      obtain ⟨b, q, rfl, hbl, hp⟩ := (HSM.out.next HB.out (Nat.le_refl _)).at_ hjn
      have hft := filter_take (lateB t) hjn
      obtain ⟨x, hpe⟩ : ∃ p, m[j] = p := ⟨_, rfl⟩
      rw [hpe] at hp hft
      obtain ⟨L, hL⟩ : ∃ L, (m.take j).filter (lateB t) = L := ⟨_, rfl⟩
      rw [hL] at ho8 ho9 hf9 hft
      have HO8 := Lib.hid ho8
      have HO9 := Lib.hid ho9
      have HAP := Lib.hid hap
      have HFT := Lib.hid hft
      have hbl' : b < w1.heap.size := hbl
      have HP := Lib.hid hp
      have c0 := hp.c0
      have c1 := hp.c1
      have c2 := hp.c2
      have c3 := hp.c3
      have c4 := hp.c4
      have c5 := hp.c5
      have c6 := hp.c6
      have c7 := hp.c7
      have c8 := hp.c8
      have h80 : (l ++ L).length ≤ 400 := by rw [List.length_append]; omega
      clear ho8 ho9 hap hft hL hp hpe
      by_cases hg : t < x.t
      · have eg : decide (t < x.t) = true := decide_eq_true hg
        have HF : Hid ((m.take (j + 1)).filter (lateB t) = L ++ [x]) := by show _ = _; rw [HFT.out]; unfold lateB; simp [hg]
        clear hg
        go_upto_region 12 with (at_builtin; refine wpList_append_own_at _ rfl _ _ 22 rfl w1.heap.size 46 i0 (.agg #[.int .i64 0, .int .i64 0, .int .i64 0, .int .i64 0, .string ⟨#[]⟩, .int .i64 0, .bool false, .int .i64 0, .int .i64 0]) 9 80 Tryz.underlying22 hi hz0 hz1 hz2 rfl (by decide) _ _ _ rfl (World.ownsRow.alloc HO8.out (.cells #[.int .i64 x.e, .int .i64 x.a, .int .i64 x.k, .int .i64 x.m, .string x.s, .int .i64 x.t, .bool x.add, .int .i64 x.fr, .int .i64 x.til] 46)) ⟨wr.heap.size, 0, none⟩ 1 1 (cellsD x) rfl rfl (fun j u h => cell_lit wr #[.int .i64 x.e, .int .i64 x.a, .int .i64 x.k, .int .i64 x.m, .string x.s, .int .i64 x.t, .bool x.add, .int .i64 x.fr, .int .i64 x.til] 46 j u h) (cellsD_one x) (by omega) (by omega) (by simp; omega) ?_; intro v3 w3 hown' hgrow _ hat)
        have ho3 : OwnD w3 w1.heap.size v3 (l ++ L ++ [x]) := ownD_of (b := [x]) (by simpa using hown')
        have hoY := World.ownsRow.alloc HO9.out (.cells #[.int .i64 x.e, .int .i64 x.a, .int .i64 x.k, .int .i64 x.m, .string x.s, .int .i64 x.t, .bool x.add, .int .i64 x.fr, .int .i64 x.til] 46)
        have ho9' := OwnD.beside hoY hgrow HAP.out
        have hap' := ap_next HAP.out hoY hat
        have hb3 : Below w1.heap.size wr w3 := ((Below.refl _ wr).alloc hsz (.cells #[.int .i64 x.e, .int .i64 x.a, .int .i64 x.k, .int .i64 x.m, .string x.s, .int .i64 x.t, .bool x.add, .int .i64 x.fr, .int .i64 x.til] 46)).trans (below_ownD (World.ownsRow.alloc HO8.out _) hgrow (by simp; omega))
        have HO83 := Lib.hid ho3
        have HO93 := Lib.hid ho9'
        have HAP3 := Lib.hid hap'
        have HB3 := Lib.hid (HB.out.trans hb3)
        have hsz3 := HB3.out.size
        have hp3 := HP.out.next hb3 hbl'
        clear c0 c1 c2 c3 c4 c5 c6 c7 c8 hown' hgrow hat ho3 hoY ho9' hap' hb3
        have c0 := hp3.c0
        have c1 := hp3.c1
        have c2 := hp3.c2
        have c3 := hp3.c3
        have c4 := hp3.c4
        have c5 := hp3.c5
        have c6 := hp3.c6
        have c7 := hp3.c7
        have c8 := hp3.c8
        clear hp3
        go_wp2_with (at_builtin; refine wpList_append_own_at _ rfl _ _ 22 rfl w1.heap.size 46 i0 (.agg #[.int .i64 0, .int .i64 0, .int .i64 0, .int .i64 0, .string ⟨#[]⟩, .int .i64 0, .bool false, .int .i64 0, .int .i64 0]) 9 80 Tryz.underlying22 hi hz0 hz1 hz2 rfl (by decide) _ _ _ rfl (World.ownsRow.alloc HO93.out (.cells #[.int .i64 x.e, .int .i64 x.a, .int .i64 x.k, .int .i64 x.m, .string x.s, .int .i64 x.t, .bool x.add, .int .i64 x.fr, .int .i64 x.til] 46)) ⟨w3.heap.size, 0, none⟩ 1 1 (cellsD x) rfl rfl (fun j u h => cell_lit w3 #[.int .i64 x.e, .int .i64 x.a, .int .i64 x.k, .int .i64 x.m, .string x.s, .int .i64 x.t, .bool x.add, .int .i64 x.fr, .int .i64 x.til] 46 j u h) (cellsD_one x) (by omega) (by omega) (by simp; omega) ?_; intro v4 w4 hown' hgrow _ hat)
        have ho4 : OwnD w4 w1.heap.size v4 (L ++ [x]) := ownD_of (b := [x]) (by simpa using hown')
        have hoY := World.ownsRow.alloc HO83.out (.cells #[.int .i64 x.e, .int .i64 x.a, .int .i64 x.k, .int .i64 x.m, .string x.s, .int .i64 x.t, .bool x.add, .int .i64 x.fr, .int .i64 x.til] 46)
        have ho8' := OwnD.beside hoY hgrow HAP3.out.symm
        have hap' := (ap_next HAP3.out.symm hoY hat).symm
        have hb4 : Below w1.heap.size w3 w4 := ((Below.refl _ w3).alloc hsz3 (.cells #[.int .i64 x.e, .int .i64 x.a, .int .i64 x.k, .int .i64 x.m, .string x.s, .int .i64 x.t, .bool x.add, .int .i64 x.fr, .int .i64 x.til] 46)).trans (below_ownD (World.ownsRow.alloc HO93.out _) hgrow (by simp; omega))
        have HO84 := Lib.hid ho8'
        have HO94 := Lib.hid ho4
        have HAP4 := Lib.hid hap'
        have HB4 := Lib.hid (HB3.out.trans hb4)
        clear hown' hgrow hat ho4 hoY ho8' hap' hb4
        go_roundg g
        case measure => omega
        case rel => exact ⟨j + 1, by rw [HF.out, ← List.append_assoc]; exact HO84.out, by rw [HF.out]; exact HO94.out, HAP4.out, by go_num, by omega, HB4.out⟩
      · have eg : decide (t < x.t) = false := decide_eq_false hg
        have HF : Hid ((m.take (j + 1)).filter (lateB t) = L) := by show _ = _; rw [HFT.out]; unfold lateB; simp [hg]
        clear hg
        go_wp2
        go_roundg g
        case measure => omega
        case rel => exact ⟨j + 1, by rw [HF.out]; exact HO8.out, by rw [HF.out]; exact HO9.out, HAP.out, by go_num, by omega, HB.out⟩
    | zero =>
      have hji : ¬ (j : Int) < (m.length : Int) := by omega
      rw [List.take_of_length_le (by omega), hlm] at ho8 ho9 hf9
      have hlmf : lm.length ≤ 200 := by omega
      obtain ⟨bl, hbq⟩ : ∃ q, l ++ lm = q := ⟨_, rfl⟩
      have h400 : bl.length ≤ 400 := by rw [← hbq, List.length_append]; omega
      rw [hbq] at ho8
      have HBQ := Lib.hid hbq
      clear hbq
      have HO8 := Lib.hid ho8
      have HO9 := Lib.hid ho9
      have HAP := Lib.hid hap
      clear ho8 ho9 hap
      obtain ⟨A8, c8, rfl, hs8, hlc8, hcm8, hn8, _⟩ := HO8.out.form
      clear hs8 hlc8 hcm8 hn8
      rename_i wq
      go_wp2
      go_loopg [9, 11] l.length (fun g y9 y11 wr => ∃ j : Nat, OwnD wr w1.heap.size y9 (lm ++ (l.take j).filter (lateB t)) ∧ OwnD wr w1.heap.size (.slice A8 bl.length c8) bl ∧ Ap (.slice A8 bl.length c8) y9 ∧ y11 = .int .i64 j ∧ j + g = l.length ∧ Hid (Below w1.heap.size w1 wr))
      case atStart => exact ⟨0, by rw [List.take_zero, List.filter_nil, List.append_nil]; exact HO9.out, HO8.out, HAP.out, rfl, by omega, HB.out⟩
      case round =>
        obtain ⟨k, hq9, hq8, hqp, rfl, hk, HC⟩ := hrel
        have hszc := HC.out.size
        have hg9 : ((l.take k).filter (lateB t)).length ≤ k := Nat.le_trans (List.length_filter_le _ _) (List.length_take_le _ _)
        cases gk with
        | succ g =>
          have hki : (k : Int) < (l.length : Int) := by omega
          have hkn : k < l.length := by omega
          obtain ⟨b, q, rfl, hbl, hp⟩ := (HSL.out.next HC.out (Nat.le_refl _)).at_ hkn
          have hft := filter_take (lateB t) hkn
          obtain ⟨x, hpe⟩ : ∃ p, l[k] = p := ⟨_, rfl⟩
          rw [hpe] at hp hft
          obtain ⟨L, hL⟩ : ∃ L, (l.take k).filter (lateB t) = L := ⟨_, rfl⟩
          rw [hL] at hq9 hg9 hft
          have HQ8 := Lib.hid hq8
          have HQ9 := Lib.hid hq9
          have HQP := Lib.hid hqp
          have HFT := Lib.hid hft
          have c0 := hp.c0
          have c1 := hp.c1
          have c2 := hp.c2
          have c3 := hp.c3
          have c4 := hp.c4
          have c5 := hp.c5
          have c6 := hp.c6
          have c7 := hp.c7
          have c8' := hp.c8
          have h81 : (lm ++ L).length ≤ 400 := by rw [List.length_append]; omega
          clear hq8 hq9 hqp hft hL hp hpe
          by_cases hg : t < x.t
          · have eg : decide (t < x.t) = true := decide_eq_true hg
            have HF : Hid ((l.take (k + 1)).filter (lateB t) = L ++ [x]) := by show _ = _; rw [HFT.out]; unfold lateB; simp [hg]
            clear hg
            go_wp2_with (at_builtin; refine wpList_append_own_at _ rfl _ _ 22 rfl w1.heap.size 46 i0 (.agg #[.int .i64 0, .int .i64 0, .int .i64 0, .int .i64 0, .string ⟨#[]⟩, .int .i64 0, .bool false, .int .i64 0, .int .i64 0]) 9 80 Tryz.underlying22 hi hz0 hz1 hz2 rfl (by decide) _ _ _ rfl (World.ownsRow.alloc HQ9.out (.cells #[.int .i64 x.e, .int .i64 x.a, .int .i64 x.k, .int .i64 x.m, .string x.s, .int .i64 x.t, .bool x.add, .int .i64 x.fr, .int .i64 x.til] 46)) ⟨wr.heap.size, 0, none⟩ 1 1 (cellsD x) rfl rfl (fun j u h => cell_lit wr #[.int .i64 x.e, .int .i64 x.a, .int .i64 x.k, .int .i64 x.m, .string x.s, .int .i64 x.t, .bool x.add, .int .i64 x.fr, .int .i64 x.til] 46 j u h) (cellsD_one x) (by omega) (by omega) (by simp; omega) ?_; intro v4 w4 hown' hgrow _ hat)
            have ho4 : OwnD w4 w1.heap.size v4 (lm ++ L ++ [x]) := ownD_of (b := [x]) (by simpa using hown')
            have hoY := World.ownsRow.alloc HQ8.out (.cells #[.int .i64 x.e, .int .i64 x.a, .int .i64 x.k, .int .i64 x.m, .string x.s, .int .i64 x.t, .bool x.add, .int .i64 x.fr, .int .i64 x.til] 46)
            have ho8' := OwnD.beside hoY hgrow HQP.out.symm
            have hap' := (ap_next HQP.out.symm hoY hat).symm
            have hb4 : Below w1.heap.size wr w4 := ((Below.refl _ wr).alloc hszc (.cells #[.int .i64 x.e, .int .i64 x.a, .int .i64 x.k, .int .i64 x.m, .string x.s, .int .i64 x.t, .bool x.add, .int .i64 x.fr, .int .i64 x.til] 46)).trans (below_ownD (World.ownsRow.alloc HQ9.out _) hgrow (by simp; omega))
            have HO84 := Lib.hid ho8'
            have HO94 := Lib.hid ho4
            have HAP4 := Lib.hid hap'
            have HB4 := Lib.hid (HC.out.trans hb4)
            clear hown' hgrow hat ho4 hoY ho8' hap' hb4
            go_roundg g
            case measure => omega
            case rel => exact ⟨k + 1, by rw [HF.out, ← List.append_assoc]; exact HO94.out, HO84.out, HAP4.out, by go_num, by omega, HB4.out⟩
          · have eg : decide (t < x.t) = false := decide_eq_false hg
            have HF : Hid ((l.take (k + 1)).filter (lateB t) = L) := by show _ = _; rw [HFT.out]; unfold lateB; simp [hg]
            clear hg
            go_wp2
            go_roundg g
            case measure => omega
            case rel => exact ⟨k + 1, by rw [HF.out]; exact HQ9.out, HQ8.out, HQP.out, by go_num, by omega, HC.out⟩
        | zero =>
          have hki : ¬ (k : Int) < (l.length : Int) := by omega
          rw [List.take_of_length_le (by omega), hll] at hq9 hg9
          have hllf : ll.length ≤ 200 := by omega
          have hmz : ∀ d, (d ∈ l ∨ d ∈ m) → d.s.size ≤ maxLen := fun d hd => Nat.le_trans (HZ.out d hd) (by decide)
          have hlm9 : ∀ d ∈ lm, d ∈ m := fun d hd => by rw [← hlm] at hd; exact (List.mem_filter.1 hd).1
          have hll9 : ∀ d ∈ ll, d ∈ l := fun d hd => by rw [← hll] at hd; exact (List.mem_filter.1 hd).1
          obtain ⟨lt, hlt⟩ : ∃ q, lm ++ ll = q := ⟨_, rfl⟩
          have HLT := Lib.hid hlt
          have h9l : lt.length ≤ 400 := by rw [← hlt, List.length_append]; omega
          rw [hlt] at hq9
          clear hlt
          have hbz : ∀ d ∈ bl, d ∈ l ∨ d ∈ m := fun d hd => (List.mem_append.1 (show d ∈ l ++ lm by rw [HBQ.out]; exact hd)).imp id (hlm9 d)
          have hlz : ∀ d ∈ lt, d ∈ l ∨ d ∈ m := fun d hd => (List.mem_append.1 (show d ∈ lm ++ ll by rw [HLT.out]; exact hd)).elim (fun h => .inr (hlm9 d h)) (fun h => .inl (hll9 d h))
          obtain ⟨A9, c9, rfl, hs9, _, _, _, _⟩ := hq9.form
          obtain ⟨A8', c8', e8, hs8, _, _, _, _⟩ := hq8.form
          cases e8
          have HS9 := Lib.hid hs9
          have HS8 := Lib.hid hs8
          have HSLc := Lib.hid ((HSL.out.next HC.out (Nat.le_refl _)).more hszc)
          have hfl1 : ∀ p, (l.filter p).length ≤ 3000 := fun p => Nat.le_trans (List.length_filter_le p l) (by omega)
          have hfl2 : ∀ p, (bl.filter p).length ≤ 3000 := fun p => Nat.le_trans (List.length_filter_le p bl) (by omega)
          have HO1 := Lib.hid (of_any t 0 0 A c l wr HSLc.out (by omega) (fun d hd => hmz d (.inl hd)) (fun d hd => HK.out d (.inl hd)) (.inl (hfl1 _)))
          have HO2 := Lib.hid (fun W (h : SlD W W.heap.size A8 bl) => of_any t 0 0 A8 c8 bl W h (by omega) (fun d hd => hmz d (hbz d hd)) (fun d hd => HK.out d (hbz d hd)) (.inl (hfl2 _)))
          have HO3 := Lib.hid (fun W (h : SlD W W.heap.size A8 bl) => of_any 0 t 0 A8 c8 bl W h (by omega) (fun d hd => hmz d (hbz d hd)) (fun d hd => HK.out d (hbz d hd)) (.inl (hfl2 _)))
          have HO4 := Lib.hid (fun W (h : SlD W W.heap.size A9 lt) => fold_u A9 c9 lt W h (by omega) (fun d hd => hmz d (hlz d hd)) (fun d hd => HK.out d (hlz d hd)) (fun _ => ⟨by omega, by have := sorts_few lt; omega⟩))
          have HE1 : Hid (∀ x, x ∈ bl.filter (seesB t 0) ↔ x ∈ l.filter (seesB t 0)) := fun x => by
            rw [← HBQ.out, List.mem_filter, List.mem_filter, List.mem_append]
            constructor
            · rintro ⟨h | h, h2⟩
              · exact ⟨h, h2⟩
              · rw [← hlm] at h
                have h3 := (List.mem_filter.1 h).2
                unfold lateB at h3
                unfold seesB at h2
                have h4 := HT1.out
                simp at h2 h3
                omega
            · rintro ⟨h, h2⟩
              exact ⟨.inl h, h2⟩
          have HE2 : Hid (∀ x, x ∈ lt ↔ x ∈ bl.filter (seesB 0 t)) := fun x => by
            rw [← HLT.out, ← HBQ.out]
            have hsl : seesB 0 t x = lateB t x := by unfold seesB lateB; simp
            rw [List.mem_filter, List.mem_append, List.mem_append, hsl, ← hlm, ← hll, List.mem_filter, List.mem_filter]
            constructor
            · rintro (⟨h1, h2⟩ | ⟨h1, h2⟩)
              · exact ⟨.inr ⟨h1, h2⟩, h2⟩
              · exact ⟨.inl h1, h2⟩
            · rintro ⟨h1 | ⟨h1, _⟩, h2⟩
              · exact .inr ⟨h1, h2⟩
              · exact .inl ⟨h1, h2⟩
          have HBW := Lib.hid (HB1.out.trans (HC.out.mono HB1.out.size))
          clear hq9 hq8 hqp hg9 hmz hlm9 hll9 hbz hlz hs9 hs8 hfl1 hfl2
          go_wp2_with fail
          refine HO1.out.mono ?_
          rintro e y1 ⟨u1, ec1, rfl, ho1, hy1⟩
          have HU1 := Lib.hid (ho1.fold HMK.out HMZ.out)
          have HY1 := Lib.hid (HBW.out.trans (hy1.mono HBW.out.size))
          have HT8 := Lib.hid ((HS8.out.next hy1 (Nat.le_refl _)).more hy1.size)
          have HT9 := Lib.hid ((HS9.out.next hy1 (Nat.le_refl _)).more hy1.size)
          have HO2' := Lib.hid (HO2.out y1 HT8.out)
          obtain ⟨F1, n1, d1, rfl⟩ := HU1.out.form
          clear ho1 hy1 HO1 HO2
          go_wp2_with fail
          refine HO2'.out.mono ?_
          rintro e y2 ⟨u2, ec2, rfl, ho2, hy2⟩
          have HU2 := Lib.hid (ho2.fold HMK.out HMZ.out)
          have HU12 := Lib.hid (HU1.out.next hy2)
          have HY2 := Lib.hid (HY1.out.trans (hy2.mono HY1.out.size))
          have HR8 := Lib.hid ((HT8.out.next hy2 (Nat.le_refl _)).more hy2.size)
          have HR9 := Lib.hid ((HT9.out.next hy2 (Nat.le_refl _)).more hy2.size)
          have HO3' := Lib.hid (HO3.out y2 HR8.out)
          obtain ⟨F2, n2, d2, rfl⟩ := HU2.out.form
          clear ho2 hy2 HO2' HO3 HU1
          go_wp2_with fail
          refine HO3'.out.mono ?_
          rintro e y3 ⟨u3, ec3, rfl, ho3, hy3⟩
          have HU3 := Lib.hid (ho3.fold HMZ.out HMK.out)
          have HU13 := Lib.hid (HU12.out.next hy3)
          have HU23 := Lib.hid (HU2.out.next hy3)
          have HY3 := Lib.hid (HY2.out.trans (hy3.mono HY2.out.size))
          have HQ9 := Lib.hid ((HR9.out.next hy3 (Nat.le_refl _)).more hy3.size)
          have HO4' := Lib.hid (HO4.out y3 HQ9.out)
          obtain ⟨F3, n3, d3, rfl⟩ := HU3.out.form
          clear ho3 hy3 HO3' HO4 HU12 HU2
          go_wp2_with fail
          refine HO4'.out.mono ?_
          rintro e y4 ⟨u4, ec4, rfl, ho4, hy4⟩
          have HU14 := Lib.hid (HU13.out.next hy4)
          have HU24 := Lib.hid (HU23.out.next hy4)
          have HU34 := Lib.hid (HU3.out.next hy4)
          have HU44 := Lib.hid ho4
          have HY4 := Lib.hid (HY3.out.trans (hy4.mono HY3.out.size))
          obtain ⟨F4, n4, d4, rfl⟩ := HU44.out.form
          obtain ⟨rfl, hsm⟩ := sameU_any HE1.out HU14.out HU24.out
          have HSM := Lib.hid hsm
          have HSM2 := Lib.hid (fun W (hb : Below y4.heap.size y4 W) => sameU_any HE2.out (HU34.out.next hb) (HU44.out.next hb))
          obtain ⟨rfl, _⟩ := sameU_any HE2.out HU34.out HU44.out
          clear ho4 hy4 HO4' HU13 HU23 HU3 hsm
          go_wp2_with fail
          refine HSM.out.mono ?_
          rintro e y5 ⟨rfl, hy5⟩
          have HY5 := Lib.hid (HY4.out.trans (hy5.mono HY4.out.size))
          have HSM3 := Lib.hid (HSM2.out y5 hy5).2
          clear hy5 HSM HSM2
          go_wp2_with fail
          refine HSM3.out.mono ?_
          rintro e y6 ⟨rfl, hy6⟩
          have HY6 := Lib.hid (HY5.out.trans (hy6.mono HY5.out.size))
          clear hy6
          go_wp2
          go_ret
          exact ⟨rfl, HY6.out⟩
end Go.Proofs.YthhkabbgghepbaaGreat

/-
  THE LAW FactsChange: its walk.
-/
namespace Go.Proofs.YthhkabbgghepbaaGreat
open Go.RowKit Go.Shelf

theorem mayFs_size {fs : List FactP} (h : mayFs fs = true) : ∀ f ∈ fs, f.s.size ≤ 1000 := fun f hf => by
  have := (of_decide_eq_true h).1 f hf
  unfold mayF at this
  simp only [Bool.and_eq_true] at this
  exact mayB_size (mayD_val this.1.1)
theorem may_at {l : List Dat} (h : notMay l = false) {d : Dat} (hd : d ∈ l) : mayD d = true := by
  unfold notMay at h
  rw [List.any_eq_false] at h
  simpa using h d hd
theorem may_tx {d : Dat} (h : mayD d = true) : 1 ≤ d.t ∧ d.t ≤ 1099511627776 := by
  unfold mayD at h
  simp only [Bool.and_eq_true, decide_eq_true_eq] at h
  exact h.1.2
set_option maxRecDepth 100000 in
set_option maxHeartbeats 8000000 in
theorem fChange_any (A B : Option Addr) (c c' : Nat) (l : List Dat) (now : List FactP) (w : World) (hs : SlD w w.heap.size A l) (hA : A = none → l.length = 0 ∧ c = 0) (hl : l.length ≤ 1048576) (hz : ∀ d ∈ l, d.s.size ≤ 1048576) (hk : ∀ d ∈ l, SpOk (spD d))
    (hf : FVa w (.slice B now.length c') now) (hl' : now.length ≤ 1048576) (hz' : ∀ f ∈ now, f.s.size + f.l.length ≤ 1048576) (hk' : ∀ f ∈ now, ∀ q ∈ f.l, SpOk q) :
    Calls Tryz.prog 5 #[.slice A l.length c, .slice B now.length c'] w fun e w' => e = .returned (.bool true) ∧ Below w.heap.size w w' := by
  obtain ⟨i0, hi, hz0, hz1, hz2⟩ := info_parts infoD
  have hmx : 2000000000000 ≤ maxLen := by decide
  have HS := Lib.hid hs
  have HF := Lib.hid hf
  have HZ := Lib.hid hz
  have HZF := Lib.hid hz'
  have HK := Lib.hid hk
  have HKF := Lib.hid hk'
  have HA := Lib.hid hA
  clear hs hf hz hz' hk hk' hA
  go_enter Tryz.func5, Tryz.ntmps5
  go_wp2_with fail
  refine (fAlive_any _).mono ?_
  rintro e w1 ⟨rfl, hb1⟩
  have HB1 := Lib.hid hb1
  have HS1 := Lib.hid ((HS.out.next hb1 (Nat.le_refl _)).more hb1.size)
  have HF1 := Lib.hid (HF.out.next hb1)
  clear hb1 HS HF
  have HGL := Lib.hid (greatD_upto A c l w1 _ HS1.out hl HZ.out)
  have HGF := Lib.hid (greatF_upto B c' now w1 HF1.out hl' HZF.out)
  go_wp2_with fail
  refine HGL.out.mono ?_
  rintro e w' ⟨hgr, rfl⟩
  rcases hgr.symm with rfl | ⟨rfl, hlf⟩
  · go_wp2
    go_ret
    exact ⟨rfl, HB1.out⟩
  go_wp2_with fail
  refine HGF.out.mono ?_
  rintro e w2 ⟨hgr, hb2⟩
  have HB2 := Lib.hid (HB1.out.trans (hb2.mono HB1.out.size))
  have HS2 := Lib.hid ((HS1.out.next hb2 (Nat.le_refl _)).more hb2.size)
  have HF2 := Lib.hid (HF1.out.next hb2)
  clear hb2 HS1 HF1 HGL HGF
  rcases hgr.symm with rfl | ⟨rfl, hnf, hns⟩
  · go_wp2
    go_ret
    exact ⟨rfl, HB2.out⟩
  have HFO := Lib.hid (fold_u A c l w2 HS2.out (by omega) (fun d hd => Nat.le_trans (HZ.out d hd) (by decide)) HK.out (fun _ => ⟨by omega, by have := sorts_few l; omega⟩))
  go_wp2_with fail
  refine HFO.out.mono ?_
  rintro e w3 ⟨v, ec, rfl, hfu, hb3⟩
  have HB3 := Lib.hid (HB2.out.trans (hb3.mono HB2.out.size))
  have HS3 := Lib.hid ((HS2.out.next hb3 (Nat.le_refl _)).more hb3.size)
  have HF3 := Lib.hid (HF2.out.next hb3)
  clear hb3 HFO HS2 HF2
  rcases hfu with ⟨rfl, rfl, _⟩ | ⟨rfl, hm, hg, old, hfo, hv, hfl, hfn⟩
  · go_wp2
    go_ret
    exact ⟨rfl, HB3.out⟩
  have HCK := Lib.hid (checkF_any B c' now w3 HF3.out (by omega) (fun f hf => ⟨Nat.le_trans (Nat.le_trans (Nat.le_add_right _ _) (HZF.out f hf)) (by decide), by have := sumS_mem hf; omega⟩))
  have hso := foldsTo_sum hfo
  have hsf := sorts_few l
  have hmo := foldsTo_may hm hfo
  have hko := fold_ok HK.out hfo
  have HO := Lib.hid (And.intro hm (And.intro hg (And.intro hfo (And.intro hmo hko))))
  obtain ⟨A4, c4, rfl, hv'⟩ := id hv
  have HV := Lib.hid hv.a
  have hso9 : sumS old ≤ 200 := by omega
  have hsum : sumS old + sumS now ≤ 5000 := by omega
  have hfl0 : ∀ f ∈ old, f.s.size ≤ maxLen ∧ f.l.length ≤ 100000 := fun f hf => ⟨Nat.le_trans (mayFs_size hmo f hf) (by decide), by have := sumS_mem hf; omega⟩
  have HFL := Lib.hid hfl0
  clear hm hg hfo hv hfl hv' hmo hko hfl0 hso hsf
  obtain ⟨mn, hmn⟩ : ∃ m, mayFs now = m := ⟨_, rfl⟩
  rw [hmn] at HCK
  have HMN := Lib.hid hmn
  clear hmn
  go_wp2_with fail
  refine HCK.out.mono ?_
  rintro e w4 ⟨rfl, hb4⟩
  have HB4 := Lib.hid (HB3.out.trans (hb4.mono HB3.out.size))
  have HS4 := Lib.hid ((HS3.out.next hb4 (Nat.le_refl _)).more hb4.size)
  have HF4 := Lib.hid (HF3.out.next hb4)
  have HV4 := Lib.hid (HV.out.next hb4)
  clear hb4 HCK HS3 HF3 HV
  cases mn
  · go_wp2
    go_ret
    exact ⟨rfl, HB4.out⟩
  go_wp2
  go_loopg [8, 9] l.length (fun g x8 x9 wr => ∃ (j : Nat) (T : Int), x8 = .int .i64 T ∧ x9 = .int .i64 j ∧ j + g = l.length ∧ 1 ≤ T ∧ T ≤ 1099511627777 ∧ Hid (∀ d ∈ l.take j, d.t < T) ∧ wr = w4)
  case atStart => exact ⟨0, 1, rfl, rfl, by omega, by omega, by omega, (fun d hd => by simp at hd), rfl⟩
  case round =>
    obtain ⟨j, T, rfl, rfl, hj, hT1, hT2, HTL, rfl⟩ := hrel
    cases gk with
    | succ g =>
      have hji : (j : Int) < (l.length : Int) := by omega
      have hjn : j < l.length := by omega
      obtain ⟨b, o, rfl, _, hp⟩ := HS4.out.at_ hjn
      obtain ⟨d, hd⟩ : ∃ d, l[j] = d := ⟨_, rfl⟩
      rw [hd] at hp
      have hdm : d ∈ l := by rw [← hd]; exact List.getElem_mem _
      have htx := may_tx (may_at HO.out.1 hdm)
      have HTK : Hid (l.take (j + 1) = l.take j ++ [d]) := by show _ = _; rw [List.take_succ_eq_append_getElem hjn, hd]
      have c5 := hp.c5
      have HN : Hid (∀ z ∈ l.take (j + 1), z.t < max T (d.t + 1)) := fun z hz => by
        rw [HTK.out] at hz
        rcases List.mem_append.1 hz with hz | hz
        · have := HTL.out z hz; omega
        · rw [List.mem_singleton.1 hz]; omega
      clear hp hd hdm
      go_wp2
      go_roundg g
      case measure => omega
      case rel => exact ⟨j + 1, max T (d.t + 1), by go_num, by go_num, by omega, by omega, by omega, HN.out, rfl⟩
    | zero =>
      have hji : ¬ (j : Int) < (l.length : Int) := by omega
      have HTA : Hid (∀ d ∈ l, d.t < T) := by
        have := HTL.out
        rwa [List.take_of_length_le (by omega)] at this
      rename_i wq
      by_cases hT : 1099511627776 < T
      · have eT : decide (1099511627776 < T) = true := decide_eq_true hT
        go_wp2
        go_ret
        exact ⟨rfl, HB4.out⟩
      have eT : decide (1099511627776 < T) = false := decide_eq_false hT
      have hT3 : T ≤ 1099511627776 := by omega
      have HCF : Hid _ := change_folds HO.out.1 HO.out.2.1 HO.out.2.2.1 HMN.out hT1 (by omega) HTA.out
      have HTX : Hid (txB T = true) := decide_eq_true (by omega)
      have HC1 := Lib.hid (changes_any T A4 B c4 c' old now _ HV4.out HF4.out (by omega) (by omega) HFL.out (fun f hf => ⟨Nat.le_trans (mayFs_size HMN.out f hf) (by decide), by have := sumS_mem hf; omega⟩) HO.out.2.2.2.2 HKF.out hsum)
      clear HTL hT
      go_wp2_with fail
      refine HC1.out.mono ?_
      rintro e w5 ⟨⟨v5, ec5, rfl, hce⟩, hb5⟩
      have HB5 := Lib.hid (HB4.out.trans (hb5.mono HB4.out.size))
      have HS5 := Lib.hid ((HS4.out.next hb5 (Nat.le_refl _)).more hb5.size)
      have HF5 := Lib.hid (HF4.out.next hb5)
      have HV5 := Lib.hid (HV4.out.next hb5)
      clear hb5 HC1 HS4 HF4 HV4
      rcases hce with ⟨_, _, _, rfl, hod⟩ | ⟨hno, _⟩ | ⟨_, _, hno, _⟩
      rotate_left
      · rw [HO.out.2.2.2.1, HMN.out] at hno; cases hno
      · rw [HTX.out] at hno; cases hno
      obtain ⟨ch, hch⟩ : ∃ q, chgL old now T = q := ⟨_, rfl⟩
      have hcl : ch.length ≤ 2000 := by
        have := chgL_len _ old now T (Nat.le_refl _)
        rw [hch] at this
        omega
      have hcz : ∀ d ∈ ch, d.s.size ≤ 1000 ∧ SpOk (spD d) := fun d hd => by
        rw [← hch] at hd
        exact ⟨mayB_size (mayD_val (chg_may HO.out.2.2.2.1 HMN.out hT1 (by omega) hd)), chg_ok (of_decide_eq_true HO.out.2.2.2.1).2 (of_decide_eq_true HMN.out).2 HO.out.2.2.2.2 HKF.out hd⟩
      rw [hch] at hod
      have HCFB : Hid (notMay (l ++ ch) = false ∧ Goes (sortsD 1 (l ++ ch)) ∧ ∀ fs, FoldsTo (runsL triD (sortsD 1 (l ++ ch))) fs → fs = now) := by rw [← hch]; exact HCF.out
      obtain ⟨A6, c6, rfl, hs6, _, _, hn6, _⟩ := hod.form
      have HS6 := Lib.hid hs6
      have HN6 := Lib.hid hn6
      have HNL := Lib.hid (HS5.out.news)
      have HO0 : Hid (OwnD w5 w5.heap.size (.slice none 0 0) []) := World.ownsRow_nil _ _ _ _
      have HCZ := Lib.hid hcz
      clear hod hs6 hn6 hch hcz HCF
      go_upto_region 17 with (at_builtin; refine wpList_append_any rfl _ _ 22 rfl w5.heap.size 46 i0 (.agg #[.int .i64 0, .int .i64 0, .int .i64 0, .int .i64 0, .string ⟨#[]⟩, .int .i64 0, .bool false, .int .i64 0, .int .i64 0]) 9 80 Tryz.underlying22 hi hz0 hz1 hz2 rfl (by decide) _ _ _ rfl HO0.out A l.length c (l.flatMap cellsD) rfl (flatD_len l) HA.out HNL.out (cellsD_all l) (by rw [List.length_nil]; omega) (by rw [List.length_nil]; omega) (Nat.le_refl _) ?_; intro v7 w6 hown' hgrow)
      have HO7 : Hid (OwnD w6 w5.heap.size v7 l) := ownD_of (a := []) hown'
      have HB56 := Lib.hid (below_ownD HO0.out hgrow (Nat.le_refl _))
      have HN7 := Lib.hid ((HS6.out.next HB56.out (Nat.le_refl _)).news)
      have hs56 := HB56.out.size
      clear hown' hgrow
      go_upto_region 18 with (at_builtin; refine wpList_append_any rfl _ _ 22 rfl w5.heap.size 46 i0 (.agg #[.int .i64 0, .int .i64 0, .int .i64 0, .int .i64 0, .string ⟨#[]⟩, .int .i64 0, .bool false, .int .i64 0, .int .i64 0]) 9 80 Tryz.underlying22 hi hz0 hz1 hz2 rfl (by decide) _ _ _ rfl HO7.out A6 ch.length c6 (ch.flatMap cellsD) rfl (flatD_len ch) HN6.out HN7.out (cellsD_all ch) (by omega) (by omega) hs56 ?_; intro v8 w7 hown' hgrow)
      have HO8 : Hid (OwnD w7 w5.heap.size v8 (l ++ ch)) := ownD_of hown'
      have HB57 := Lib.hid (HB56.out.trans (below_ownD HO7.out hgrow hs56))
      clear hown' hgrow
      obtain ⟨bo, hbo⟩ : ∃ q, l ++ ch = q := ⟨_, rfl⟩
      have hbl : bo.length ≤ 2200 := by rw [← hbo, List.length_append]; omega
      have hbz : ∀ d ∈ bo, d.s.size ≤ maxLen ∧ SpOk (spD d) := fun d hd => by
        rw [← hbo] at hd
        rcases List.mem_append.1 hd with hd | hd
        · exact ⟨Nat.le_trans (HZ.out d hd) (by decide), HK.out d hd⟩
        · exact ⟨Nat.le_trans (HCZ.out d hd).1 (by decide), (HCZ.out d hd).2⟩
      have ho8 := HO8.out
      have hcf := HCFB.out
      rw [hbo] at ho8 hcf
      obtain ⟨A8, c8, rfl, hs8, _, _, _, _⟩ := ho8.form
      have HCF2 := Lib.hid hcf
      have HB7 := Lib.hid (HB5.out.trans (HB57.out.mono HB5.out.size))
      have HF7 := Lib.hid (HF5.out.next HB57.out)
      have HV7 := Lib.hid (HV5.out.next HB57.out)
      have HFD := Lib.hid (fold_u A8 c8 bo w7 hs8 (by omega) (fun d hd => (hbz d hd).1) (fun d hd => (hbz d hd).2) (fun _ => ⟨by omega, by have := sorts_few bo; omega⟩))
      clear hbz ho8 hcf hbo hs8 HO8 HO7 HO0 HNL HN7 HS6 HCFB
      go_wp2_with fail
      refine HFD.out.mono ?_
      rintro e w8 ⟨v8, ec8, rfl, hfu8, hb8⟩
      rcases hfu8 with ⟨_, _, hbad | hbad⟩ | ⟨rfl, _, _, fs8, hfs8, hv8, _, _⟩
      · rw [HCF2.out.1] at hbad; cases hbad
      · exact absurd HCF2.out.2.1 hbad
      obtain rfl := HCF2.out.2.2 _ hfs8
      have HB8 := Lib.hid (HB7.out.trans (hb8.mono HB7.out.size))
      have HF8 := Lib.hid (HF7.out.next hb8)
      have HV8 := Lib.hid (HV7.out.next hb8)
      obtain ⟨A9, c9, rfl, _⟩ := id hv8
      have HX8 := Lib.hid hv8.a
      have HC2 := Lib.hid (changes_any T B B c' c' fs8 fs8 w8 HF8.out HF8.out (by omega) (by omega) (fun f hf => ⟨Nat.le_trans (mayFs_size HMN.out f hf) (by decide), by have := sumS_mem hf; omega⟩) (fun f hf => ⟨Nat.le_trans (mayFs_size HMN.out f hf) (by decide), by have := sumS_mem hf; omega⟩) HKF.out HKF.out (by omega))
      clear hb8 HFD hv8 hfs8 HCF2 HF7 HV7
      go_wp2_with fail
      refine HC2.out.mono ?_
      rintro e w9 ⟨⟨v9, ec9, rfl, hce⟩, hb9⟩
      have HB9 := Lib.hid (HB8.out.trans (hb9.mono HB8.out.size))
      have HF9 := Lib.hid (HF8.out.next hb9)
      have HV9 := Lib.hid (HV8.out.next hb9)
      have HX9 := Lib.hid (HX8.out.next hb9)
      clear hb9 HC2 HF8 HV8 HX8
      rcases hce with ⟨_, _, _, rfl, hod⟩ | ⟨hno, _⟩ | ⟨_, _, hno, _⟩
      rotate_left
      · rw [HMN.out] at hno; cases hno
      · rw [HTX.out] at hno; cases hno
      rw [chg_same (of_decide_eq_true HMN.out).2] at hod
      obtain ⟨A10, c10, rfl, _⟩ := hod.form
      simp only [List.length_nil]
      have HK9 := Lib.hid (checkF_any A4 c4 old w9 HV9.out (by omega) HFL.out)
      rw [HO.out.2.2.2.1] at HK9
      clear hod
      go_wp2_with fail
      refine HK9.out.mono ?_
      rintro e w10 ⟨rfl, hb10⟩
      have HB10 := Lib.hid (HB9.out.trans (hb10.mono HB9.out.size))
      have HSM := Lib.hid (sameFa_any A9 B c9 c' fs8 w10 (HX9.out.next hb10) (HF9.out.next hb10) (by omega) (fun f hf => by have := sumS_mem hf; omega))
      clear hb10 HK9
      go_wp2_with fail
      refine HSM.out.mono ?_
      rintro e w11 ⟨rfl, hb11⟩
      have HB11 := Lib.hid (HB10.out.trans (hb11.mono HB10.out.size))
      clear hb11
      go_wp2
      go_ret
      exact ⟨rfl, HB11.out⟩
end Go.Proofs.YthhkabbgghepbaaGreat
