/-
  CONTRACTS: Or, And, Minus by their instants; then.
-/
import Derived.Test.YthhkabbgghepbaaGreatJSHasL
import Derived.Test.YthhkabbgghepbaaGreatJDSl
import Derived.Test.YthhkabbgghepbaaGreatJFFoldP
import Derived.Test.YthhkabbgghepbaaGreatJOWords
namespace Go.Proofs.YthhkabbgghepbaaGreat
open Go.RowKit Go.Shelf

/-- a slice's block is one of spans -/
def OfT (W : World) (A : Option Addr) (l : List Sp) : Prop := l ≠ [] → ∃ b o cs fr, A = some ⟨b, o, none⟩ ∧ W.heap[b]? = some (.cells cs 53 fr)
/-- a value that reads as a set's spans -/
def SV (W : World) (v : Value) (l : List Sp) : Prop := ∃ A c, v = .slice A l.length c ∧ SlS W W.heap.size A l ∧ l.length ≤ c ∧ c ≤ maxLen ∧ OfT W A l
theorem SV.next {W W' : World} {v : Value} {l : List Sp} (h : SV W v l) (hb : Below W.heap.size W W') : SV W' v l := by
  obtain ⟨A, c, e, h1, h2, h3, h4⟩ := h
  refine ⟨A, c, e, (h1.next hb (Nat.le_refl _)).more hb.size, h2, h3, fun hl => ?_⟩
  obtain ⟨b, o, cs, fr, e, hc⟩ := h4 hl
  exact ⟨b, o, cs, fr, e, (hb.block b (Array.getElem?_eq_some_iff.1 hc).1).trans hc⟩
theorem ownS_sv {W : World} {B : Nat} {v : Value} {l : List Sp} (h : OwnS W B v l) : SV W v l := by
  obtain ⟨A, c, e, h1, h2, h3⟩ := h.sls
  refine ⟨A, c, e, h1, h2, h3, fun hl => ?_⟩
  rcases h.2 with ⟨_, h0⟩ | ⟨g, cap, cur, e2, _, hgb, _⟩
  · exact absurd (List.length_eq_zero_iff.1 h0) hl
  · rw [e] at e2
    cases e2
    exact ⟨g, 0, _, _, rfl, hgb⟩
/-- What two sets put together answer. -/
def PutEnd (W : World) (p : Int → Prop) (e : Ending) (W' : World) : Prop := (∃ l v, e = .returned (.tuple #[v, .int .i64 0]) ∧ OwnS W' W.heap.size v l ∧ SetL l ∧ (∀ s ∈ l, SpOk s) ∧ ∀ t, Inn l t ↔ p t) ∧ Below W.heap.size W W'
theorem inn_low {l : List Sp} (h : ∀ s ∈ l, SpOk s) {t : Int} (ht : t < minT) : ¬ Inn l t := fun ⟨s, hs, h1, _⟩ => by
  have := (h s hs).1.1
  omega
theorem putEnd_of {W W' : World} {f : Nat → Bool} {a b : List Sp} {e : Ending} (p : Int → Prop) (h : ChEnd W f a b e W') (ha : SetL a) (hb : SetL b) (hka : ∀ s ∈ a, SpOk s) (hkb : ∀ s ∈ b, SpOk s)
    (hw : ∀ t, wants f (innB a t) (innB b t) ↔ p t) (hp : ∀ t, t < minT → ¬ p t) : PutEnd W p e W' := by
  obtain ⟨h1, h2⟩ := h
  have sa : setB a = true := decide_eq_true ha
  have sb : setB b = true := decide_eq_true hb
  rcases h1 with ⟨_, _, l, v, hch, _, rfl, ho⟩ | ⟨h3, _⟩
  · obtain ⟨k1, k2, k3⟩ := told_set hch sa sb hka hkb
    refine ⟨⟨l, v, rfl, ho, of_decide_eq_true k1, k2, fun t => ?_⟩, h2⟩
    by_cases ht : minT ≤ t
    · have := k3 t ht
      unfold innB at this
      rw [← hw t]
      unfold innB
      exact decide_eq_decide.1 this
    · exact ⟨fun g => absurd g (inn_low k2 (by omega)), fun g => absurd g (hp t (by omega))⟩
  · rw [sa, sb] at h3; cases h3
theorem minus_any (a b : List Sp) (va vb : Value) (w : World) (hva : SV w va a) (hvb : SV w vb b) (ha : SetL a) (hb : SetL b) (hka : ∀ s ∈ a, SpOk s) (hkb : ∀ s ∈ b, SpOk s) (hl : 2 * a.length + 2 * b.length ≤ 20000) :
    Calls Tryz.prog 49 #[va, vb] w (PutEnd w (fun t => Inn a t ∧ ¬ Inn b t)) := by
  obtain ⟨A, c, rfl, h1, h2, h3, _⟩ := hva
  obtain ⟨A', c', rfl, h1', h2', h3', _⟩ := hvb
  refine (spanMinus_any A A' c c' a b w h1 h1' h2 h3 h2' h3' hl hka hkb).mono fun e W' h => putEnd_of _ h ha hb hka hkb (fun t => ?_) (fun t ht h => inn_low hka ht h.1)
  unfold wants wantsMinus whoN innB
  by_cases h5 : Inn a t <;> by_cases h6 : Inn b t <;> simp [h5, h6]
theorem or_any (a b : List Sp) (va vb : Value) (w : World) (hva : SV w va a) (hvb : SV w vb b) (ha : SetL a) (hb : SetL b) (hka : ∀ s ∈ a, SpOk s) (hkb : ∀ s ∈ b, SpOk s) (hl : 2 * a.length + 2 * b.length ≤ 20000) :
    Calls Tryz.prog 99 #[va, vb] w (PutEnd w (fun t => Inn a t ∨ Inn b t)) := by
  obtain ⟨A, c, rfl, h1, h2, h3, _⟩ := hva
  obtain ⟨A', c', rfl, h1', h2', h3', _⟩ := hvb
  refine (spanOr_any A A' c c' a b w h1 h1' h2 h3 h2' h3' hl hka hkb).mono fun e W' h => putEnd_of _ h ha hb hka hkb (fun t => ?_) (fun t ht h => h.elim (inn_low hka ht) (inn_low hkb ht))
  unfold wants wantsOr whoN innB
  by_cases h5 : Inn a t <;> by_cases h6 : Inn b t <;> simp [h5, h6]
theorem and_any (a b : List Sp) (va vb : Value) (w : World) (hva : SV w va a) (hvb : SV w vb b) (ha : SetL a) (hb : SetL b) (hka : ∀ s ∈ a, SpOk s) (hkb : ∀ s ∈ b, SpOk s) (hl : 2 * a.length + 2 * b.length ≤ 20000) :
    Calls Tryz.prog 65 #[va, vb] w (PutEnd w (fun t => Inn a t ∧ Inn b t)) := by
  obtain ⟨A, c, rfl, h1, h2, h3, _⟩ := hva
  obtain ⟨A', c', rfl, h1', h2', h3', _⟩ := hvb
  refine (spanAnd_any A A' c c' a b w h1 h1' h2 h3 h2' h3' hl hka hkb).mono fun e W' h => putEnd_of _ h ha hb hka hkb (fun t => ?_) (fun t ht h => inn_low hka ht h.1)
  unfold wants wantsAnd whoN innB
  by_cases h5 : Inn a t <;> by_cases h6 : Inn b t <;> simp [h5, h6]
/-- a turn in its box -/
def TBx (W : World) (b : Nat) (x y : Value) : Prop := W.heap[b]? = some (.cells #[x, y] 80 (0, 0))
theorem TBx.cell {W : World} {b : Nat} {x y : Value} (h : TBx W b x y) (j : Nat) : W.cell? ⟨b, j, none⟩ = (#[x, y])[j]? := by unfold TBx at h; simp [World.cell?, h]
theorem TBx.lt {W : World} {b : Nat} {x y : Value} (h : TBx W b x y) : b < W.heap.size := (Array.getElem?_eq_some_iff.1 h).1
theorem TBx.next {W W' : World} {b : Nat} {x y : Value} (h : TBx W b x y) (hb : Below W.heap.size W W') : TBx W' b x y := (hb.block b h.lt).trans h
theorem slS_apart {W : World} {b bt o n c n' c' : Nat} {a a' : Option Addr} {l : List Sp} (h : ∀ (j : Nat) (v : Sp), l[j]? = some v → SpAt W b (o + j * 2) v) (hl : l ≠ []) (ht : TBx W bt (.slice a n c) (.slice a' n' c')) : b ≠ bt := by
  rintro rfl
  obtain ⟨v, hv⟩ : ∃ v, l[0]? = some v := ⟨l[0]'(List.length_pos_iff.2 hl), List.getElem?_eq_getElem _⟩
  have h1 := (h 0 v hv).c0
  rw [ht.cell] at h1
  match o, h1 with
  | 0, h1 => simp at h1
  | 1, h1 => simp at h1
  | o + 2, h1 => simp at h1
theorem sv_set2 {W : World} {bt n c n' c' : Nat} {a a' : Option Addr} {v u u' : Value} {l : List Sp} (h : SV W v l) (ht : TBx W bt (.slice a n c) (.slice a' n' c')) : SV ((W.setCell ⟨bt, 0, none⟩ u).setCell ⟨bt, 1, none⟩ u') v l := by
  obtain ⟨A, c1, rfl, hs, h2, h3, h4⟩ := h
  refine ⟨A, c1, rfl, fun hl => ?_, h2, h3, fun hl => ?_⟩
  rotate_left
  · obtain ⟨b, o, cs, fr, e, hc⟩ := h4 hl
    have hne : b ≠ bt := by
      rintro rfl
      rw [show W.heap[b]? = _ from ht] at hc
      injection hc with hc
      injection hc with _ h5 _
      exact absurd h5 (by decide)
    exact ⟨b, o, cs, fr, e, ((Below.heap_setCell _ ⟨bt, 1, none⟩ _ b hne).trans (Below.heap_setCell _ ⟨bt, 0, none⟩ _ b hne)).trans hc⟩
  obtain ⟨b, o, e, hlt, hc⟩ := hs hl
  have hne := slS_apart hc hl ht
  have hcell : ∀ i, ((W.setCell ⟨bt, 0, none⟩ u).setCell ⟨bt, 1, none⟩ u').cell? ⟨b, i, none⟩ = W.cell? ⟨b, i, none⟩ := fun i => by
    have g : ((W.setCell ⟨bt, 0, none⟩ u).setCell ⟨bt, 1, none⟩ u').heap[b]? = W.heap[b]? := (Below.heap_setCell _ ⟨bt, 1, none⟩ _ b hne).trans (Below.heap_setCell _ ⟨bt, 0, none⟩ _ b hne)
    exact World.cell?_of_block (w := W) (a := ⟨b, i, none⟩) g
  refine ⟨b, o, e, by simpa using hlt, fun j p hp => ⟨(hcell _).trans (hc j p hp).c0, (hcell _).trans (hc j p hp).c1⟩⟩
/-- What a turn and a later one answer. -/
def ThenEnd (E : List Int) (w : World) (x y : TurnP) (e : Ending) (w' : World) : Prop := (∃ z vi vo, e = .returned (.agg #[vi, vo]) ∧ SV w' vi z.i ∧ SV w' vo z.o ∧ TurnOk E z ∧ (∀ t, Inn z.i t ↔ (Inn x.i t ∧ ¬ Inn y.o t) ∨ Inn y.i t) ∧ ∀ t, Inn z.o t ↔ Inn x.o t ∨ Inn y.o t) ∧ Below w.heap.size w w'
set_option maxRecDepth 100000 in
set_option maxHeartbeats 2000000 in
theorem then_any (E : List Int) (hE : E.length ≤ 6000) (x y : TurnP) (xi xo yi yo : Value) (w : World) (hx : TurnOk E x) (hy : TurnOk E y) (h1 : SV w xi x.i) (h2 : SV w xo x.o) (h3 : SV w yi y.i) (h4 : SV w yo y.o) :
    Calls Tryz.prog 66 #[.agg #[xi, xo], .agg #[yi, yo]] w (ThenEnd E w x y) := by
  have fx := joins_few hx
  have fy := joins_few hy
  have HX := Lib.hid hx
  have HY := Lib.hid hy
  obtain ⟨A1, c1, rfl, g1⟩ := h1
  obtain ⟨A2, c2, rfl, g2⟩ := h2
  obtain ⟨A3, c3, rfl, g3⟩ := h3
  obtain ⟨A4, c4, rfl, g4⟩ := h4
  go_enter Tryz.func66, Tryz.ntmps66
  go_wp2_with fail
  obtain ⟨W0, hW0⟩ : ∃ W0, (((w.alloc (.cells #[.slice A1 x.i.length c1, .slice A2 x.o.length c2] 80)).alloc (.cells #[.slice A3 y.i.length c3, .slice A4 y.o.length c4] 80)).alloc (.cells #[.slice none 0 0, .slice none 0 0] 80)) = W0 := ⟨_, rfl⟩
  have hB0 : Below w.heap.size w W0 := by rw [← hW0]; exact (((Below.refl _ w).alloc (Nat.le_refl _) _).alloc (by simp) _).alloc (by simp; omega) _
  have T2 : Hid (TBx W0 w.heap.size (.slice A1 x.i.length c1) (.slice A2 x.o.length c2)) := by
    show TBx _ _ _ _
    rw [← hW0]
    exact ((TBx.next (heap_alloc_new w _) ((Below.refl _ _).alloc (Nat.le_refl _) _)).next ((Below.refl _ _).alloc (Nat.le_refl _) _))
  have T3 : Hid (TBx W0 (w.heap.size + 1) (.slice A3 y.i.length c3) (.slice A4 y.o.length c4)) := by
    show TBx _ _ _ _
    rw [← hW0]
    have h := heap_alloc_new (w.alloc (.cells #[.slice A1 x.i.length c1, .slice A2 x.o.length c2] 80)) (.cells #[.slice A3 y.i.length c3, .slice A4 y.o.length c4] 80)
    rw [World.size_alloc] at h
    exact TBx.next h ((Below.refl _ _).alloc (Nat.le_refl _) _)
  have T4 : Hid (TBx W0 (w.heap.size + 1 + 1) (.slice none 0 0) (.slice none 0 0)) := by
    show TBx _ _ _ _
    rw [← hW0]
    have h := heap_alloc_new ((w.alloc (.cells #[.slice A1 x.i.length c1, .slice A2 x.o.length c2] 80)).alloc (.cells #[.slice A3 y.i.length c3, .slice A4 y.o.length c4] 80)) (.cells #[.slice none 0 0, .slice none 0 0] 80)
    rw [World.size_alloc, World.size_alloc] at h
    exact h
  rw [hW0]
  have S1 := Lib.hid (SV.next ⟨A1, c1, rfl, g1⟩ hB0)
  have S2 := Lib.hid (SV.next ⟨A2, c2, rfl, g2⟩ hB0)
  have S3 := Lib.hid (SV.next ⟨A3, c3, rfl, g3⟩ hB0)
  have S4 := Lib.hid (SV.next ⟨A4, c4, rfl, g4⟩ hB0)
  have HB0 := Lib.hid hB0
  clear hW0 hB0 g1 g2 g3 g4 hx hy
  refine (minus_any x.i y.o _ _ W0 S1.out S4.out HX.out.i HY.out.o HX.out.ik HY.out.ok (by omega)).mono ?_
  rintro e w1 ⟨⟨m, v, rfl, ho, hs, hk, hm⟩, hb⟩
  have M1 := Lib.hid (ownS_sv ho)
  have MP := Lib.hid (And.intro hs (And.intro hk hm))
  have R2 := Lib.hid (T2.out.next hb)
  have R3 := Lib.hid (T3.out.next hb)
  have R4 := Lib.hid (T4.out.next hb)
  have V2 := Lib.hid (S2.out.next hb)
  have V3 := Lib.hid (S3.out.next hb)
  have V4 := Lib.hid (S4.out.next hb)
  have HB1 := Lib.hid (HB0.out.trans (hb.mono HB0.out.size))
  have fm : 2 * m.length ≤ E.length := set_few2 hs ((HX.out.ie.and HY.out.oe.not).iff hm)
  have q0 := R3.out.cell 0
  simp at q0
  clear ho hs hk hm hb T2 T3 T4 S1 S2 S3 S4 HB0
  go_wp2_with fail
  refine (or_any m y.i _ _ w1 M1.out V3.out MP.out.1 HY.out.i MP.out.2.1 HY.out.ik (by omega)).mono ?_
  rintro e w2 ⟨⟨zi, vi, rfl, ho, hs, hk, hm⟩, hb⟩
  have N1 := Lib.hid (ownS_sv ho)
  have NP := Lib.hid (And.intro hs (And.intro hk hm))
  have U2 := Lib.hid (R2.out.next hb)
  have U3 := Lib.hid (R3.out.next hb)
  have U4 := Lib.hid (R4.out.next hb)
  have X2 := Lib.hid (V2.out.next hb)
  have X4 := Lib.hid (V4.out.next hb)
  have HB2 := Lib.hid (HB1.out.trans (hb.mono HB1.out.size))
  have p0 := U2.out.cell 1
  have p1 := U3.out.cell 1
  simp at p0 p1
  clear ho hs hk hm hb R2 R3 R4 V2 V3 V4 HB1 q0
  go_wp2_with fail
  refine (or_any x.o y.o _ _ w2 X2.out X4.out HX.out.o HY.out.o HX.out.ok HY.out.ok (by omega)).mono ?_
  rintro e w3 ⟨⟨zo, vo, rfl, ho, hs, hk, hm⟩, hb⟩
  have K1 := Lib.hid (ownS_sv ho)
  have KP := Lib.hid (And.intro hs (And.intro hk hm))
  have N3 := Lib.hid (N1.out.next hb)
  have Y4 := Lib.hid (U4.out.next hb)
  have HB3 := Lib.hid (HB2.out.trans (hb.mono HB2.out.size))
  have r0 := Y4.out.cell 0
  have r1 := Y4.out.cell 1
  have rf0 : w3.frozen? ⟨w.heap.size + 1 + 1, 0, none⟩ = false := by have h := Y4.out; unfold TBx at h; simp [World.frozen?, h]
  have rf1 : w3.frozen? ⟨w.heap.size + 1 + 1, 1, none⟩ = false := by have h := Y4.out; unfold TBx at h; simp [World.frozen?, h]
  simp at r0 r1
  obtain ⟨Ai, ci, rfl, gi⟩ := N3.out
  obtain ⟨Ao, co, rfl, go⟩ := K1.out
  have GI := Lib.hid gi
  have GO := Lib.hid go
  clear ho hs hk hm hb U2 U3 U4 X2 X4 HB2 p0 p1 gi go
  go_wp2
  refine bodyPost_ret (v := .agg #[.slice Ai zi.length ci, .slice Ao zo.length co]) ?_ rfl ⟨⟨⟨zi, zo⟩, _, _, rfl, ?_, ?_, ⟨NP.out.1, KP.out.1, NP.out.2.1, KP.out.2.1, ?_, ?_⟩, ?_, ?_⟩, ?_⟩
  · rw [results_cell_only rfl]; go_simp
  · exact sv_set2 N3.out Y4.out
  · exact sv_set2 K1.out Y4.out
  · exact (((HX.out.ie.and HY.out.oe.not).iff MP.out.2.2).or HY.out.ie).iff NP.out.2.2
  · exact (HX.out.oe.or HY.out.oe).iff KP.out.2.2
  · intro t
    rw [NP.out.2.2, MP.out.2.2]
  · exact KP.out.2.2
  · exact (HB3.out.setCell (p := ⟨w.heap.size + 1 + 1, 0, none⟩) (by show _ ≤ _ + 1 + 1; omega) _).setCell (p := ⟨w.heap.size + 1 + 1, 1, none⟩) (by show _ ≤ _ + 1 + 1; omega) _
end Go.Proofs.YthhkabbgghepbaaGreat
