import Derived.StillTailTactics
import Derived.Test.YtlmihlepaoifiaaJFThen
import Derived.Test.YtlmihlepaoifiaaJDSl
import Derived.Test.YtlmihlepaoifiaaJFRunT
import Derived.Test.YtlmihlepaoifiaaJFTurn
import Derived.Shelf.RegionOpen
import Derived.RangeFuncNested
import Derived.Test.YtlmihlepaoifiaaJFLastP
import Derived.BigQuiet
import Derived.Laws.StructEq
import Derived.Deep.Draws
import Derived.Test.YtlmihlepaoifiaaJSLeaf
import Derived.Test.YtlmihlepaoifiaaJDComp
import Derived.Test.YtlmihlepaoifiaaJRegion
/-
  CONTRACT: joined (turns joined by halves).
-/
namespace Go.Proofs.Ytlmihlepaoifiaa
open Go.RowKit Go.Shelf

/-- a turn in a slice -/
def TnAt (W : World) (b o : Nat) (x : TurnP) : Prop := ∃ vi vo, W.cell? ⟨b, o, none⟩ = some vi ∧ W.cell? ⟨b, o + 1, none⟩ = some vo ∧ SV W vi x.i ∧ SV W vo x.o
def SlT (W : World) (A : Option Addr) (ts : List TurnP) : Prop := ts ≠ [] → ∃ b o, A = some ⟨b, o, none⟩ ∧ b < W.heap.size ∧ ∀ (j : Nat) (v : TurnP), ts[j]? = some v → TnAt W b (o + j * 2) v
theorem SlT.next {W W' : World} {A : Option Addr} {ts : List TurnP} (h : SlT W A ts) (hb : Below W.heap.size W W') : SlT W' A ts := fun hl => by
  obtain ⟨b, o, e, hlt, hc⟩ := h hl
  refine ⟨b, o, e, Nat.lt_of_lt_of_le hlt hb.size, fun j v hv => ?_⟩
  obtain ⟨vi, vo, h1, h2, h3, h4⟩ := hc j v hv
  exact ⟨vi, vo, (hb.cell (p := ⟨b, o + j * 2, none⟩) hlt).trans h1, (hb.cell (p := ⟨b, o + j * 2 + 1, none⟩) hlt).trans h2, h3.next hb, h4.next hb⟩
def cutT (A : Option Addr) (c k : Nat) : Option Addr := if c = k then A else A.map (·.add (k * 2))
theorem SlT.take {W : World} {A : Option Addr} {ts : List TurnP} (h : SlT W A ts) (k : Nat) : SlT W A (ts.take k) := fun hl => by
  obtain ⟨b, o, e, hlt, hc⟩ := h (fun e => hl (by rw [e]; simp))
  refine ⟨b, o, e, hlt, fun j v hv => hc j v ?_⟩
  rw [List.getElem?_take] at hv
  split at hv
  · exact hv
  · cases hv
theorem SlT.drop {W : World} {A : Option Addr} {ts : List TurnP} (h : SlT W A ts) {c : Nat} (k : Nat) (hlc : ts.length ≤ c) : SlT W (cutT A c k) (ts.drop k) := fun hl => by
  have hk : k < ts.length := by
    rcases Nat.lt_or_ge k ts.length with h1 | h1
    · exact h1
    · exact absurd (List.drop_of_length_le h1) hl
  obtain ⟨b, o, rfl, hlt, hc⟩ := h (fun e => by rw [e] at hk; exact absurd hk (Nat.not_lt_zero _))
  unfold cutT
  rw [if_neg (by omega)]
  refine ⟨b, o + k * 2, by show some (Addr.add ⟨b, o, none⟩ (k * 2)) = _; rw [addI], hlt, fun j v hv => ?_⟩
  rw [List.getElem?_drop] at hv
  have := hc (k + j) v hv
  rwa [show o + (k + j) * 2 = o + k * 2 + j * 2 from by omega] at this
end Go.Proofs.Ytlmihlepaoifiaa

/-
  FRAMES of the fold: the iterators as loops see them; facts and turns in rows; what a round of the fold leaves.
-/
namespace Go.Proofs.Ytlmihlepaoifiaa
open Go.RowKit Go.Shelf

/-- a fact's cells, its spans' value beside it -/
def cellsF (p : FactP × Value) : List Value := [.int .i64 p.1.e, .int .i64 p.1.a, .int .i64 p.1.k, .int .i64 p.1.m, .string p.1.s, p.2]
/-- a row of facts that the call has to itself -/
def OwnF (W : World) (B : Nat) (v : Value) (ps : List (FactP × Value)) : Prop := W.ownsRow B 30 6 v ps.length (ps.flatMap cellsF) ∧ ∀ p ∈ ps, SV W p.2 p.1.l
theorem SV.off {W W' : World} {v : Value} {l : List Sp} {row : Option Nat} (h : SV W v l) (hg : W.grownBy W' row) (hr : ∀ r, row = some r → ∀ cs fr, W.heap[r]? ≠ some (.cells cs 34 fr)) : SV W' v l := by
  obtain ⟨A, c, e, h1, h2, h3, h4⟩ := h
  by_cases hl : l = []
  · exact ⟨A, c, e, fun h => absurd hl h, h2, h3, fun h => absurd hl h⟩
  · obtain ⟨b, o, cs, fr, eb, hc⟩ := h4 hl
    have hlt := (Array.getElem?_eq_some_iff.1 hc).1
    have hb : W'.heap[b]? = W.heap[b]? := hg.block b hlt (fun e => hr b e.symm cs fr hc)
    refine ⟨A, c, e, fun _ => ?_, h2, h3, fun _ => ⟨b, o, cs, fr, eb, hb.trans hc⟩⟩
    obtain ⟨b', o', e', hlt', hp⟩ := h1 hl
    rw [eb] at e'
    cases e'
    have hcell : ∀ i, W'.cell? ⟨b, i, none⟩ = W.cell? ⟨b, i, none⟩ := fun i => World.cell?_of_block (w := W) (a := ⟨b, i, none⟩) hb
    exact ⟨b, o, eb, Nat.lt_of_lt_of_le hlt hg.size, fun j q hq => ⟨(hcell _).trans (hp j q hq).c0, (hcell _).trans (hp j q hq).c1⟩⟩
theorem SV.other {W W' : World} {B size n : Nat} {t : TypeId} {v u : Value} {xs : List Value} {l : List Sp} (h : SV W u l) (hr : W.ownsRow B t size v n xs) (ht : t ≠ 34) (hg : W.grownBy W' v.ownBlock) : SV W' u l := by
  refine h.off hg fun r e cs fr hc => ?_
  rcases hr.2 with ⟨rfl, _⟩ | ⟨g', cap', cur', rfl, _, hgb', _⟩
  · cases e
  · have e2 : g' = r := by injection e
    subst e2
    rw [hc] at hgb'
    injection hgb' with hgb'
    injection hgb' with _ h2 _
    exact ht h2.symm
theorem OwnF.kept {W W' : World} {B : Nat} {v : Value} {ps : List (FactP × Value)} {row : Option Nat} (h : OwnF W B v ps) (hg : W.grownBy W' row) (hr : ∀ r, row = some r → ∃ o : Obj, W.heap[r]? = some o ∧ o.isCells = false) : OwnF W' B v ps := by
  refine ⟨World.ownsRow.kept h.1 hg ?_, fun p hp => (h.2 p hp).off hg (fun r e cs fr hc => by obtain ⟨o, ho, hn⟩ := hr r e; rw [hc] at ho; cases ho; cases hn)⟩
  rcases h.1.2 with ⟨rfl, _⟩ | ⟨g, cap, cur, rfl, _, hgb, _⟩
  · exact .inl rfl
  · refine .inr (fun e => ?_)
    obtain ⟨o, ho, hc⟩ := hr g e.symm
    rw [hgb] at ho; cases ho; cases hc
theorem grown_below {W W' : World} (hb : Below W.heap.size W W') : W.grownBy W' none := ⟨hb.os, hb.tape, hb.output, hb.size, fun k hk _ => hb.block k hk⟩
theorem OwnF.next {W W' : World} {B : Nat} {v : Value} {ps : List (FactP × Value)} (h : OwnF W B v ps) (hb : Below W.heap.size W W') : OwnF W' B v ps := h.kept (grown_below hb) (fun r e => by cases e)
/-- a fact in a slice -/
def FcAt (W : World) (b o : Nat) (f : FactP) : Prop := W.cell? ⟨b, o, none⟩ = some (.int .i64 f.e) ∧ W.cell? ⟨b, o + 1, none⟩ = some (.int .i64 f.a) ∧ W.cell? ⟨b, o + 2, none⟩ = some (.int .i64 f.k) ∧ W.cell? ⟨b, o + 3, none⟩ = some (.int .i64 f.m) ∧ W.cell? ⟨b, o + 4, none⟩ = some (.string f.s) ∧ ∃ sv, W.cell? ⟨b, o + 5, none⟩ = some sv ∧ SV W sv f.l
/-- a value that reads as facts -/
def FV (W : World) (v : Value) (fs : List FactP) : Prop := ∃ A c, v = .slice A fs.length c ∧ (fs ≠ [] → ∃ b o, A = some ⟨b, o, none⟩ ∧ b < W.heap.size ∧ ∀ (j : Nat) (f : FactP), fs[j]? = some f → FcAt W b (o + j * 6) f) ∧ fs.length ≤ c ∧ c ≤ maxLen
theorem FV.next {W W' : World} {v : Value} {fs : List FactP} (h : FV W v fs) (hb : Below W.heap.size W W') : FV W' v fs := by
  obtain ⟨A, c, e, hs, h2, h3⟩ := h
  refine ⟨A, c, e, fun hl => ?_, h2, h3⟩
  obtain ⟨b, o, e, hlt, hc⟩ := hs hl
  refine ⟨b, o, e, Nat.lt_of_lt_of_le hlt hb.size, fun j f hf => ?_⟩
  obtain ⟨c0, c1, c2, c3, c4, sv, c5, hsv⟩ := hc j f hf
  have up : ∀ i u, W.cell? ⟨b, i, none⟩ = some u → W'.cell? ⟨b, i, none⟩ = some u := fun i u h => (hb.cell (p := ⟨b, i, none⟩) hlt).trans h
  exact ⟨up _ _ c0, up _ _ c1, up _ _ c2, up _ _ c3, up _ _ c4, sv, up _ _ c5, hsv.next hb⟩
theorem OwnF.fv {W : World} {B : Nat} {v : Value} {ps : List (FactP × Value)} (h : OwnF W B v ps) : FV W v (ps.map (·.1)) := by
  rcases h.1.2 with ⟨rfl, h0⟩ | ⟨g, cap, cur, rfl, hgB, hgb, hlc, hcm, _⟩
  · have : ps = [] := List.length_eq_zero_iff.1 h0
    subst this
    exact ⟨none, 0, rfl, fun hl => absurd rfl hl, Nat.le_refl _, Nat.zero_le _⟩
  · refine ⟨_, _, by rw [List.length_map], fun _ => ⟨g, 0, rfl, (Array.getElem?_eq_some_iff.1 hgb).1, fun j x hx => ?_⟩, by rw [List.length_map]; exact hlc, hcm⟩
    rw [List.getElem?_map] at hx
    obtain ⟨p, hp, rfl⟩ := Option.map_eq_some_iff.1 hx
    have hc : ∀ i u, i < 6 → (cellsF p)[i]? = some u → W.cell? ⟨g, 0 + j * 6 + i, none⟩ = some u := fun i u hi hu => by
      have := World.ownsRow.cells h.1 (g := g) rfl (j * 6 + i) u (by rw [flatG (enc := cellsF) (k := 6) (fun _ => rfl) hi, hp]; exact hu)
      rw [addI] at this
      rw [show (0 : Nat) + j * 6 + i = 0 + (j * 6 + i) by omega]
      exact this
    exact ⟨hc 0 _ (by decide) rfl, hc 1 _ (by decide) rfl, hc 2 _ (by decide) rfl, hc 3 _ (by decide) rfl, hc 4 _ (by decide) rfl, p.2, hc 5 _ (by decide) rfl, h.2 p (List.mem_of_getElem? hp)⟩
theorem SV.alloc {W : World} {v : Value} {l : List Sp} (h : SV W v l) (o : Obj) : SV (W.alloc o) v l := h.next ((Below.refl _ W).alloc (Nat.le_refl _) o)
theorem SV.box {W : World} {v u u' : Value} {l : List Sp} {bx : Nat} {t : TypeId} (h : SV W v l) (hb : Boxed W bx t u) (ht : t ≠ 34) : SV (W.setCell ⟨bx, 0, none⟩ u') v l := by
  refine h.off (grownBy_setCell' W bx u') fun r e cs fr hc => ?_
  cases e
  rw [show W.heap[bx]? = _ from hb] at hc
  injection hc with hc
  injection hc with _ h2 _
  exact ht h2
end Go.Proofs.Ytlmihlepaoifiaa

/-
  FRAMES of the fold: what stands behind some of its rounds.
-/
namespace Go.Proofs.Ytlmihlepaoifiaa
open Go.RowKit Go.Shelf

/-- all blocks below M lie as they lay, but one -/
def Kq (M bx : Nat) (X Y : World) : Prop := X.heap.size ≤ Y.heap.size ∧ ∀ k, k < M → k ≠ bx → Y.heap[k]? = X.heap[k]?
theorem Kq.refl (M bx : Nat) (X : World) : Kq M bx X X := ⟨Nat.le_refl _, fun _ _ _ => rfl⟩
theorem Kq.trans {M bx : Nat} {X Y Z : World} (h : Kq M bx X Y) (k : Kq M bx Y Z) : Kq M bx X Z := ⟨Nat.le_trans h.1 k.1, fun i h1 h2 => (k.2 i h1 h2).trans (h.2 i h1 h2)⟩
section
variable {κ : Type} [DecidableEq κ] (key : Dat → κ)
end
theorem OwnF.low {W : World} {B B' : Nat} {v : Value} {ps : List (FactP × Value)} (h : OwnF W B v ps) (hB : B' ≤ B) : OwnF W B' v ps := by
  refine ⟨⟨h.1.1, ?_⟩, h.2⟩
  rcases h.1.2 with h1 | ⟨g, cap, cur, e, h1, h2⟩
  · exact .inl h1
  · exact .inr ⟨g, cap, cur, e, Nat.le_trans hB h1, h2⟩
end Go.Proofs.Ytlmihlepaoifiaa

/-
  PLAIN FACTS: how triples stand; which facts may be; what datoms are folded to may be.
-/
namespace Go.Proofs.Ytlmihlepaoifiaa
open VOrd (IsOrd lexO lex_is ordI_is ordT_is ordT)

/-- how two triples stand -/
def ordTr (x y : Int × Int × Int × Int × ByteArray) : Int := lexO ordI (lexO ordI ordT) x y
theorem ordTr_is : IsOrd ordTr := lex_is ordI_is (lex_is ordI_is ordT_is)
def triF (f : FactP) : Int × Int × Int × Int × ByteArray := (f.e, f.a, f.k, f.m, f.s)
/-- a datom that has all but the triple as it may be -/
def datF (f : FactP) : Dat := ⟨f.e, f.a, f.k, f.m, f.s, 1, false, 0, 1⟩
def mayF (f : FactP) : Bool := mayD (datF f) && decide (0 < f.l.length) && setB f.l
def RiseF (fs : List FactP) : Prop := fs.Pairwise fun x y => ordTr (triF x) (triF y) < 0
instance (fs : List FactP) : Decidable (RiseF fs) := inferInstanceAs (Decidable (fs.Pairwise fun x y => ordTr (triF x) (triF y) < 0))
/-- facts may be -/
def MayFs (fs : List FactP) : Prop := (∀ f ∈ fs, mayF f = true) ∧ RiseF fs
instance (fs : List FactP) : Decidable (MayFs fs) := inferInstanceAs (Decidable ((∀ f ∈ fs, mayF f = true) ∧ RiseF fs))
def mayFs (fs : List FactP) : Bool := decide (MayFs fs)
/-- one fact, behind the one ahead of it -/
def FOk (fs : List FactP) (i : Nat) : Prop := ∀ f, fs[i]? = some f → mayF f = true ∧ ∀ p, 0 < i → fs[i - 1]? = some p → ordTr (triF p) (triF f) < 0
theorem mayFs_all {fs : List FactP} (h : ∀ i, i < fs.length → FOk fs i) : mayFs fs = true := by
  refine decide_eq_true ⟨fun f hf => ?_, ?_⟩
  · obtain ⟨i, hi, rfl⟩ := List.mem_iff_getElem.1 hf
    exact (h i hi _ (List.getElem?_eq_getElem hi)).1
  · have step : ∀ (j : Nat) (hj : j + 1 < fs.length), ordTr (triF (fs[j]'(by omega))) (triF fs[j + 1]) < 0 := fun j hj => by
      have := (h (j + 1) hj _ (List.getElem?_eq_getElem hj)).2 (fs[j]'(by omega)) (by omega) (List.getElem?_eq_getElem (by omega))
      exact this
    have far : ∀ (n i : Nat) (hn : i + n + 1 < fs.length), ordTr (triF (fs[i]'(by omega))) (triF fs[i + n + 1]) < 0 := fun n => by
      induction n with
      | zero => exact fun i hn => step i hn
      | succ n ih => exact fun i hn => ordTr_is.lt (ih i (by omega)) (Int.le_of_lt (step (i + n + 1) (by omega)))
    show fs.Pairwise _
    rw [List.pairwise_iff_getElem]
    intro i j hi hj hij
    obtain ⟨n, rfl⟩ : ∃ n, j = i + n + 1 := ⟨j - i - 1, by omega⟩
    exact far n i hj
theorem fOk_of {fs : List FactP} (h : mayFs fs = true) (i : Nat) : FOk fs i := fun f hf => by
  obtain ⟨h1, h2⟩ := of_decide_eq_true h
  refine ⟨h1 f (List.mem_of_getElem? hf), fun p hi hp => ?_⟩
  obtain ⟨g1, rfl⟩ := List.getElem?_eq_some_iff.1 hf
  obtain ⟨g2, rfl⟩ := List.getElem?_eq_some_iff.1 hp
  exact List.pairwise_iff_getElem.1 h2 (i - 1) i g2 g1 (by omega)
theorem mayFs_no {fs : List FactP} {i : Nat} (h : ¬ FOk fs i) : mayFs fs = false := by
  cases hm : mayFs fs with
  | false => rfl
  | true => exact absurd (fOk_of hm i) h

end Go.Proofs.Ytlmihlepaoifiaa

/-
  CONTRACT: the document's Same of two lists of facts that are equal.
-/
namespace Go.Proofs.Ytlmihlepaoifiaa
open Go.RowKit Go.Shelf

/-- a fact's cells, the value of its spans named -/
def FcV (W : World) (b o : Nat) (f : FactP) (sv : Value) : Prop := W.cell? ⟨b, o, none⟩ = some (.int .i64 f.e) ∧ W.cell? ⟨b, o + 1, none⟩ = some (.int .i64 f.a) ∧ W.cell? ⟨b, o + 2, none⟩ = some (.int .i64 f.k) ∧ W.cell? ⟨b, o + 2 + 1, none⟩ = some (.int .i64 f.m) ∧ W.cell? ⟨b, o + 2 + 2, none⟩ = some (.string f.s) ∧ W.cell? ⟨b, o + 5, none⟩ = some sv
def SmS (b o b' o' : Nat) (f : FactP) (sv sv' : Value) (W : World) : Prop := FcV W b o f sv ∧ FcV W b' o' f sv' ∧ SV W sv f.l ∧ SV W sv' f.l ∧ b < W.heap.size ∧ b' < W.heap.size
theorem FcV.next {W W' : World} {b o : Nat} {f : FactP} {sv : Value} (h : FcV W b o f sv) (hb : Below W.heap.size W W') (hlt : b < W.heap.size) : FcV W' b o f sv := by
  have up : ∀ i u, W.cell? ⟨b, i, none⟩ = some u → W'.cell? ⟨b, i, none⟩ = some u := fun i u h => (hb.cell (p := ⟨b, i, none⟩) hlt).trans h
  exact ⟨up _ _ h.1, up _ _ h.2.1, up _ _ h.2.2.1, up _ _ h.2.2.2.1, up _ _ h.2.2.2.2.1, up _ _ h.2.2.2.2.2⟩
theorem SmS.next {b o b' o' : Nat} {f : FactP} {sv sv' : Value} {W W' : World} (h : SmS b o b' o' f sv sv' W) (hb : Below W.heap.size W W') : SmS b o b' o' f sv sv' W' :=
  ⟨h.1.next hb h.2.2.2.2.1, h.2.1.next hb h.2.2.2.2.2, h.2.2.1.next hb, h.2.2.2.1.next hb, Nat.lt_of_lt_of_le h.2.2.2.2.1 hb.size, Nat.lt_of_lt_of_le h.2.2.2.2.2 hb.size⟩
end Go.Proofs.Ytlmihlepaoifiaa

