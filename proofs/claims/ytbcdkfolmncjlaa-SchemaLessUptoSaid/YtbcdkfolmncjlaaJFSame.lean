import Derived.StillTailTactics
import Derived.Test.YtbcdkfolmncjlaaJFThen
import Derived.Test.YtbcdkfolmncjlaaJOArgs
import Derived.Test.YtbcdkfolmncjlaaJFRunT
import Derived.Test.YtbcdkfolmncjlaaJFTurn
import Derived.Shelf.RegionOpen
import Derived.RangeFuncNested
import Derived.Test.YtbcdkfolmncjlaaJFLastP
import Derived.BigQuiet
import Derived.Laws.StructEq
import Derived.Deep.Draws
import Derived.Test.YtbcdkfolmncjlaaJSLeaf
import Derived.Test.YtbcdkfolmncjlaaJDComp
import Derived.Test.YtbcdkfolmncjlaaJRegion
/-
  CONTRACT: joined (turns joined by halves).
-/
namespace Go.Proofs.Ytbcdkfolmncjlaa
open Go.RowKit Go.Shelf

theorem wpAnyH_mono {P : Program} {ops : Array Oper} {Q : Exit → Act → World → Prop} {md : Region.Mode} {S S' : World → Prop} (hs : ∀ w, S' w → S w) :
    ∀ (fuel : Nat) (listed : Array Bool) (a : Act) (w : World), wpAnyH P md ops Q S' fuel listed a w → wpAnyH P md ops Q S fuel listed a w
  | 0, _, _, _, h => h
  | fuel + 1, _, _, _, h => ⟨h.1, fun i hi => wpOp_mono (fun a' w' h' => ⟨hs _ h'.1, wpAnyH_mono hs fuel _ a' w' h'.2⟩) (h.2 i hi)⟩

/-- a turn in a slice -/
def TnAt (W : World) (b o : Nat) (x : TurnP) : Prop := ∃ vi vo, W.cell? ⟨b, o, none⟩ = some vi ∧ W.cell? ⟨b, o + 1, none⟩ = some vo ∧ SV W vi x.i ∧ SV W vo x.o
def SlT (W : World) (A : Option Addr) (ts : List TurnP) : Prop := ts ≠ [] → ∃ b o, A = some ⟨b, o, none⟩ ∧ b < W.heap.size ∧ ∀ (j : Nat) (v : TurnP), ts[j]? = some v → TnAt W b (o + j * 2) v
theorem SlT.next {W W' : World} {A : Option Addr} {ts : List TurnP} (h : SlT W A ts) (hb : Below W.heap.size W W') : SlT W' A ts := fun hl => by
  obtain ⟨b, o, e, hlt, hc⟩ := h hl
  refine ⟨b, o, e, Nat.lt_of_lt_of_le hlt hb.size, fun j v hv => ?_⟩
  obtain ⟨vi, vo, h1, h2, h3, h4⟩ := hc j v hv
  exact ⟨vi, vo, (hb.cell (p := ⟨b, o + j * 2, none⟩) hlt).trans h1, (hb.cell (p := ⟨b, o + j * 2 + 1, none⟩) hlt).trans h2, h3.next hb, h4.next hb⟩
def cutT (A : Option Addr) (c k : Nat) : Option Addr := if c = k then A else A.map (·.add (k * 2))
theorem cutT_zero (A : Option Addr) (c : Nat) : cutT A c 0 = A := by
  unfold cutT
  split
  · rfl
  · cases A with
    | none => rfl
    | some a =>
      show some (a.add (0 * 2)) = some a
      rw [Nat.zero_mul]
      congr 1
theorem SlT.take {W : World} {A : Option Addr} {ts : List TurnP} (h : SlT W A ts) (k : Nat) : SlT W A (ts.take k) := fun hl => by
  obtain ⟨b, o, e, hlt, hc⟩ := h (fun e => hl (by rw [e]; simp))
  refine ⟨b, o, e, hlt, fun j v hv => hc j v ?_⟩
  rw [List.getElem?_take] at hv
  split at hv
  · exact hv
  · cases hv
theorem SlT.drop {W : World} {A : Option Addr} {ts : List TurnP} (h : SlT W A ts) {c : Nat} (k : Nat) (hlc : ts.length ≤ c) : SlT W (cutT A c k) (ts.drop k) := fun hl => by
  have hk : k < ts.length := by
    rcases Nat.lt_or_ge k ts.length with h1 | h1
    · exact h1
    · exact absurd (List.drop_of_length_le h1) hl
  obtain ⟨b, o, rfl, hlt, hc⟩ := h (fun e => by rw [e] at hk; exact absurd hk (Nat.not_lt_zero _))
  unfold cutT
  rw [if_neg (by omega)]
  refine ⟨b, o + k * 2, by show some (Addr.add ⟨b, o, none⟩ (k * 2)) = _; rw [addI], hlt, fun j v hv => ?_⟩
  rw [List.getElem?_drop] at hv
  have := hc (k + j) v hv
  rwa [show o + (k + j) * 2 = o + k * 2 + j * 2 from by omega] at this
/-- What joined answers. -/
def JoinEnd (E : List Int) (w : World) (ts : List TurnP) (e : Ending) (w' : World) : Prop := (∃ z vi vo, e = .returned (.agg #[vi, vo]) ∧ SV w' vi z.i ∧ SV w' vo z.o ∧ Joins E ts z) ∧ Below w.heap.size w w'

end Go.Proofs.Ytbcdkfolmncjlaa

/-
  FRAMES of the fold: the iterators as loops see them; facts and turns in rows; what a round of the fold leaves.
-/
namespace Go.Proofs.Ytbcdkfolmncjlaa
open Go.RowKit Go.Shelf

/-- a fact's cells, its spans' value beside it -/
def cellsF (p : FactP × Value) : List Value := [.int .i64 p.1.e, .int .i64 p.1.a, .int .i64 p.1.k, .int .i64 p.1.m, .string p.1.s, p.2]
def cellsT (p : TurnP × (Value × Value)) : List Value := [p.2.1, p.2.2]
/-- a row of facts that the call has to itself -/
def OwnF (W : World) (B : Nat) (v : Value) (ps : List (FactP × Value)) : Prop := W.ownsRow B 30 6 v ps.length (ps.flatMap cellsF) ∧ ∀ p ∈ ps, SV W p.2 p.1.l
theorem SV.off {W W' : World} {v : Value} {l : List Sp} {row : Option Nat} (h : SV W v l) (hg : W.grownBy W' row) (hr : ∀ r, row = some r → ∀ cs fr, W.heap[r]? ≠ some (.cells cs 34 fr)) : SV W' v l := by
  obtain ⟨A, c, e, h1, h2, h3, h4⟩ := h
  by_cases hl : l = []
  · exact ⟨A, c, e, fun h => absurd hl h, h2, h3, fun h => absurd hl h⟩
  · obtain ⟨b, o, cs, fr, eb, hc⟩ := h4 hl
    have hlt := (Array.getElem?_eq_some_iff.1 hc).1
    have hb : W'.heap[b]? = W.heap[b]? := hg.block b hlt (fun e => hr b e.symm cs fr hc)
    refine ⟨A, c, e, fun _ => ?_, h2, h3, fun _ => ⟨b, o, cs, fr, eb, hb.trans hc⟩⟩
    obtain ⟨b', o', e', hlt', hp⟩ := h1 hl
    rw [eb] at e'
    cases e'
    have hcell : ∀ i, W'.cell? ⟨b, i, none⟩ = W.cell? ⟨b, i, none⟩ := fun i => World.cell?_of_block (w := W) (a := ⟨b, i, none⟩) hb
    exact ⟨b, o, eb, Nat.lt_of_lt_of_le hlt hg.size, fun j q hq => ⟨(hcell _).trans (hp j q hq).c0, (hcell _).trans (hp j q hq).c1⟩⟩
theorem SV.other {W W' : World} {B size n : Nat} {t : TypeId} {v u : Value} {xs : List Value} {l : List Sp} (h : SV W u l) (hr : W.ownsRow B t size v n xs) (ht : t ≠ 34) (hg : W.grownBy W' v.ownBlock) : SV W' u l := by
  refine h.off hg fun r e cs fr hc => ?_
  rcases hr.2 with ⟨rfl, _⟩ | ⟨g', cap', cur', rfl, _, hgb', _⟩
  · cases e
  · have e2 : g' = r := by injection e
    subst e2
    rw [hc] at hgb'
    injection hgb' with hgb'
    injection hgb' with _ h2 _
    exact ht h2.symm
theorem row_other {W W' : World} {B B' size n : Nat} {t : TypeId} {v u : Value} {xs : List Value} {l : List Sp} (h : OwnS W B u l) (hr : W.ownsRow B' t size v n xs) (ht : t ≠ 34) (hg : W.grownBy W' v.ownBlock) : OwnS W' B u l := by
  refine World.ownsRow.kept h hg ?_
  rcases h.2 with ⟨rfl, _⟩ | ⟨g, cap, cur, rfl, _, hgb, _⟩
  · exact .inl rfl
  · refine .inr (fun e => ?_)
    rcases hr.2 with ⟨rfl, _⟩ | ⟨g', cap', cur', rfl, _, hgb', _⟩
    · cases e
    · have e2 : g = g' := by injection e
      subst e2
      rw [hgb] at hgb'
      injection hgb' with hgb'
      injection hgb' with _ h2 _
      exact ht h2.symm
theorem row_off {W W' : World} {B B' size n size' n' : Nat} {t t' : TypeId} {v u : Value} {xs ys : List Value} (h : W.ownsRow B t' size' u n' ys) (hr : W.ownsRow B' t size v n xs) (ht : t' ≠ t) (hg : W.grownBy W' v.ownBlock) : W'.ownsRow B t' size' u n' ys := by
  refine World.ownsRow.kept h hg ?_
  rcases h.2 with ⟨rfl, _⟩ | ⟨g, cap, cur, rfl, _, hgb, _⟩
  · exact .inl rfl
  · refine .inr (fun e => ?_)
    rcases hr.2 with ⟨rfl, _⟩ | ⟨g', cap', cur', rfl, _, hgb', _⟩
    · cases e
    · have e2 : g = g' := by injection e
      subst e2
      rw [hgb] at hgb'
      injection hgb' with hgb'
      injection hgb' with _ h2 _
      exact ht h2
theorem OwnF.kept {W W' : World} {B : Nat} {v : Value} {ps : List (FactP × Value)} {row : Option Nat} (h : OwnF W B v ps) (hg : W.grownBy W' row) (hr : ∀ r, row = some r → ∃ o : Obj, W.heap[r]? = some o ∧ o.isCells = false) : OwnF W' B v ps := by
  refine ⟨World.ownsRow.kept h.1 hg ?_, fun p hp => (h.2 p hp).off hg (fun r e cs fr hc => by obtain ⟨o, ho, hn⟩ := hr r e; rw [hc] at ho; cases ho; cases hn)⟩
  rcases h.1.2 with ⟨rfl, _⟩ | ⟨g, cap, cur, rfl, _, hgb, _⟩
  · exact .inl rfl
  · refine .inr (fun e => ?_)
    obtain ⟨o, ho, hc⟩ := hr g e.symm
    rw [hgb] at ho; cases ho; cases hc
theorem grown_below {W W' : World} (hb : Below W.heap.size W W') : W.grownBy W' none := ⟨hb.os, hb.tape, hb.output, hb.size, fun k hk _ => hb.block k hk⟩
theorem OwnF.next {W W' : World} {B : Nat} {v : Value} {ps : List (FactP × Value)} (h : OwnF W B v ps) (hb : Below W.heap.size W W') : OwnF W' B v ps := h.kept (grown_below hb) (fun r e => by cases e)
theorem ownF_nil (W : World) (B : Nat) : OwnF W B (.slice none 0 0) [] := ⟨World.ownsRow_nil _ _ _ _, fun _ h => by cases h⟩
/-- a fact in a slice -/
def FcAt (W : World) (b o : Nat) (f : FactP) : Prop := W.cell? ⟨b, o, none⟩ = some (.int .i64 f.e) ∧ W.cell? ⟨b, o + 1, none⟩ = some (.int .i64 f.a) ∧ W.cell? ⟨b, o + 2, none⟩ = some (.int .i64 f.k) ∧ W.cell? ⟨b, o + 3, none⟩ = some (.int .i64 f.m) ∧ W.cell? ⟨b, o + 4, none⟩ = some (.string f.s) ∧ ∃ sv, W.cell? ⟨b, o + 5, none⟩ = some sv ∧ SV W sv f.l
/-- a value that reads as facts -/
def FV (W : World) (v : Value) (fs : List FactP) : Prop := ∃ A c, v = .slice A fs.length c ∧ (fs ≠ [] → ∃ b o, A = some ⟨b, o, none⟩ ∧ b < W.heap.size ∧ ∀ (j : Nat) (f : FactP), fs[j]? = some f → FcAt W b (o + j * 6) f) ∧ fs.length ≤ c ∧ c ≤ maxLen
theorem FV.next {W W' : World} {v : Value} {fs : List FactP} (h : FV W v fs) (hb : Below W.heap.size W W') : FV W' v fs := by
  obtain ⟨A, c, e, hs, h2, h3⟩ := h
  refine ⟨A, c, e, fun hl => ?_, h2, h3⟩
  obtain ⟨b, o, e, hlt, hc⟩ := hs hl
  refine ⟨b, o, e, Nat.lt_of_lt_of_le hlt hb.size, fun j f hf => ?_⟩
  obtain ⟨c0, c1, c2, c3, c4, sv, c5, hsv⟩ := hc j f hf
  have up : ∀ i u, W.cell? ⟨b, i, none⟩ = some u → W'.cell? ⟨b, i, none⟩ = some u := fun i u h => (hb.cell (p := ⟨b, i, none⟩) hlt).trans h
  exact ⟨up _ _ c0, up _ _ c1, up _ _ c2, up _ _ c3, up _ _ c4, sv, up _ _ c5, hsv.next hb⟩
theorem OwnF.fv {W : World} {B : Nat} {v : Value} {ps : List (FactP × Value)} (h : OwnF W B v ps) : FV W v (ps.map (·.1)) := by
  rcases h.1.2 with ⟨rfl, h0⟩ | ⟨g, cap, cur, rfl, hgB, hgb, hlc, hcm, _⟩
  · have : ps = [] := List.length_eq_zero_iff.1 h0
    subst this
    exact ⟨none, 0, rfl, fun hl => absurd rfl hl, Nat.le_refl _, Nat.zero_le _⟩
  · refine ⟨_, _, by rw [List.length_map], fun _ => ⟨g, 0, rfl, (Array.getElem?_eq_some_iff.1 hgb).1, fun j x hx => ?_⟩, by rw [List.length_map]; exact hlc, hcm⟩
    rw [List.getElem?_map] at hx
    obtain ⟨p, hp, rfl⟩ := Option.map_eq_some_iff.1 hx
    have hc : ∀ i u, i < 6 → (cellsF p)[i]? = some u → W.cell? ⟨g, 0 + j * 6 + i, none⟩ = some u := fun i u hi hu => by
      have := World.ownsRow.cells h.1 (g := g) rfl (j * 6 + i) u (by rw [flatG (enc := cellsF) (k := 6) (fun _ => rfl) hi, hp]; exact hu)
      rw [addI] at this
      rw [show (0 : Nat) + j * 6 + i = 0 + (j * 6 + i) by omega]
      exact this
    exact ⟨hc 0 _ (by decide) rfl, hc 1 _ (by decide) rfl, hc 2 _ (by decide) rfl, hc 3 _ (by decide) rfl, hc 4 _ (by decide) rfl, p.2, hc 5 _ (by decide) rfl, h.2 p (List.mem_of_getElem? hp)⟩
theorem SV.alloc {W : World} {v : Value} {l : List Sp} (h : SV W v l) (o : Obj) : SV (W.alloc o) v l := h.next ((Below.refl _ W).alloc (Nat.le_refl _) o)
theorem SV.box {W : World} {v u u' : Value} {l : List Sp} {bx : Nat} {t : TypeId} (h : SV W v l) (hb : Boxed W bx t u) (ht : t ≠ 34) : SV (W.setCell ⟨bx, 0, none⟩ u') v l := by
  refine h.off (grownBy_setCell' W bx u') fun r e cs fr hc => ?_
  cases e
  rw [show W.heap[bx]? = _ from hb] at hc
  injection hc with hc
  injection hc with _ h2 _
  exact ht h2
theorem ownF_step {W w1 : World} {B b4 : Nat} {v v' u : Value} {ps : List (FactP × Value)} {f : FactP} {vi : Value} {tmp : Obj} (h : OwnF W B v ps) (hi : SV W vi f.l) (hbx : Boxed w1 b4 24 u)
    (hown' : w1.ownsRow B 30 6 v' (ps.length + 1) (ps.flatMap cellsF ++ cellsF (f, vi))) (hgrow : (W.alloc tmp).grownBy w1 v.ownBlock) : OwnF (w1.setCell ⟨b4, 0, none⟩ v') B v' (ps ++ [(f, vi)]) := by
  have hr := World.ownsRow.alloc h.1 tmp
  refine ⟨?_, fun p hp => ?_⟩
  · have := hown'.kept (grownBy_setCell' w1 b4 v') (.inr (hbx.not_row (by decide) hown').symm)
    simpa using this
  · have hp2 : SV W p.2 p.1.l := by
      rcases List.mem_append.1 hp with hp | hp
      · exact h.2 p hp
      · rw [List.mem_singleton.1 hp]; exact hi
    exact ((hp2.alloc tmp).other hr (by decide) hgrow).box hbx (by decide)
end Go.Proofs.Ytbcdkfolmncjlaa

/-
  FRAMES of the fold: what stands behind some of its rounds.
-/
namespace Go.Proofs.Ytbcdkfolmncjlaa
open Go.RowKit Go.Shelf

theorem infoF : (Try.prog.info? 30).map (fun i => (i.zero, i.size, i.bytes)) = some (some (.agg #[.int .i64 0, .int .i64 0, .int .i64 0, .int .i64 0, .string ⟨#[]⟩, .slice none 0 0]), 6, 72) := by kernel_rfl

/-- all blocks below M lie as they lay, but one -/
def Kq (M bx : Nat) (X Y : World) : Prop := X.heap.size ≤ Y.heap.size ∧ ∀ k, k < M → k ≠ bx → Y.heap[k]? = X.heap[k]?
theorem Kq.refl (M bx : Nat) (X : World) : Kq M bx X X := ⟨Nat.le_refl _, fun _ _ _ => rfl⟩
theorem Kq.trans {M bx : Nat} {X Y Z : World} (h : Kq M bx X Y) (k : Kq M bx Y Z) : Kq M bx X Z := ⟨Nat.le_trans h.1 k.1, fun i h1 h2 => (k.2 i h1 h2).trans (h.2 i h1 h2)⟩
theorem kq_below {M bx : Nat} {X Y : World} (h : Below M X Y) (hs : X.heap.size ≤ Y.heap.size) : Kq M bx X Y := ⟨hs, fun k hk _ => h.block k hk⟩
theorem kq_set {M bx : Nat} {X : World} {u : Value} : Kq M bx X (X.setCell ⟨bx, 0, none⟩ u) := ⟨by simp, fun k _ hne => Below.heap_setCell _ ⟨bx, 0, none⟩ _ k hne⟩
theorem Kq.kpR {M bx B Bk : Nat} {A : Option Addr} {l : List Dat} {t : TypeId} {fv : Value} {X Y : World} (h : Kq M bx X Y) (hA : ∀ b o, l ≠ [] → A = some ⟨b, o, none⟩ → b < B → b ≠ bx) (hB : B ≤ M) (hk : Bk < M) (hkx : Bk ≠ bx) : KpR B A l Bk t fv X Y := by
  refine ⟨fun hs hl => ?_, fun hb => (h.2 Bk hk hkx).trans hb, h.1⟩
  obtain ⟨b, o, e, hlt, hc⟩ := hs hl
  have hb := h.2 b (by omega) (hA b o hl e hlt)
  exact ⟨b, o, e, hlt, fun j v hv i hi => (World.cell?_of_block (w := X) (a := ⟨b, o + j * 9 + i, none⟩) hb).trans (hc j v hv i hi)⟩
theorem kpR_put {M B Bk : Nat} {A : Option Addr} {l : List Dat} {t : TypeId} {fv : Value} (hB : B ≤ M) (hk : Bk < M) (W : World) (lp : Nat) (o' : Obj) (hl : M ≤ lp) : KpR B A l Bk t fv W (W.putObj lp o') := by
  have hh : ∀ k, k < M → (W.putObj lp o').heap[k]? = W.heap[k]? := fun k hk => World.putObj_heap_other (by omega)
  refine ⟨fun hs hl => ?_, fun hb => (hh Bk hk).trans hb, by simp [World.putObj]⟩
  obtain ⟨b, o, e, hlt, hc⟩ := hs hl
  exact ⟨b, o, e, hlt, fun j v hv i hi => (World.cell?_of_block (w := W) (a := ⟨b, o + j * 9 + i, none⟩) (hh b (by omega))).trans (hc j v hv i hi)⟩
theorem slD_box {W : World} {B bx : Nat} {A : Option Addr} {l : List Dat} {t : TypeId} {u : Value} (h : SlD W B A l) (hb : Boxed W bx t u) : ∀ b o, l ≠ [] → A = some ⟨b, o, none⟩ → b < B → b ≠ bx := fun b o hl e _ => by
  rintro rfl
  obtain ⟨b', o', e', _, hc⟩ := h hl
  rw [e] at e'
  cases e'
  have h1 := (hc 0 _ (List.getElem?_eq_getElem (List.length_pos_iff.2 hl))).c1
  simp [World.cell?, show W.heap[b]? = _ from hb] at h1
theorem slD_of {W W' : World} {B : Nat} {A : Option Addr} {l : List Dat} (h : SlD W B A l) (hb : ∀ b o, l ≠ [] → A = some ⟨b, o, none⟩ → b < B → W'.heap[b]? = W.heap[b]?) : SlD W' B A l := fun hl => by
  obtain ⟨b, o, e, hlt, hc⟩ := h hl
  exact ⟨b, o, e, hlt, fun j v hv i hi => (World.cell?_of_block (w := W) (a := ⟨b, o + j * 9 + i, none⟩) (hb b o hl e hlt)).trans (hc j v hv i hi)⟩

section
variable {κ : Type} [DecidableEq κ] (key : Dat → κ)
theorem run_sl {W : World} {B c : Nat} {A : Option Addr} {l : List Dat} (hs : SlD W B A l) (hlc : l.length ≤ c) (i : Nat) (h : i < (runsL key l).length) :
    SlD W B (stR A c ((runsL key l).take i)).1 (runsL key l)[i] ∧ (runsL key l)[i].length ≤ (stR A c ((runsL key l).take i)).2 ∧ (stR A c ((runsL key l).take i)).2 ≤ c ∧ (runsL key l)[i].length ≤ l.length := by
  obtain ⟨h1, h2, h3⟩ := restR_next key h
  have hf := flat_le key l i
  have hr := rest_len key l i
  have hlen : (runsL key l)[i].length ≤ (restR key l i).length := by rw [h2, List.length_take]; omega
  rw [stR_cap]
  refine ⟨?_, by omega, by omega, by omega⟩
  rw [h2]
  exact (stR_sl _ hs hlc hf).take _
theorem run_mem {l : List Dat} {r : List Dat} (h : r ∈ runsL key l) {d : Dat} (hd : d ∈ r) : d ∈ l := by
  rw [← runsL_join key _ l (Nat.le_refl _)]
  exact List.mem_flatten.2 ⟨r, h, hd⟩
theorem run_ne {l : List Dat} {r : List Dat} (h : r ∈ runsL key l) : r ≠ [] := by
  obtain ⟨x, r', rfl, _⟩ := runsL_each key _ l (Nat.le_refl _) r h
  simp
theorem flat_few : ∀ (L : List (List Dat)), (∀ r ∈ L, r ≠ []) → L.length ≤ L.flatten.length
  | [], _ => Nat.le_refl _
  | r :: L, h => by
    have h1 := flat_few L (fun q hq => h q (List.mem_cons_of_mem _ hq))
    have h2 := List.length_pos_iff.2 (h r List.mem_cons_self)
    rw [List.flatten_cons, List.length_append, List.length_cons]
    omega
theorem runs_few (l : List Dat) : (runsL key l).length ≤ l.length := by
  have h := flat_few (runsL key l) (fun r hr => run_ne key hr)
  rwa [runsL_join key _ l (Nat.le_refl _)] at h
end
theorem map_all {α : Type} (L : List α) : (allN L.length).map (fun i => L[i.val]) = L := by
  unfold allN
  apply List.ext_getElem
  · simp
  · intro i h1 h2
    simp
theorem turns_snoc {R : List Dat → TurnP → Prop} {L : List (List Dat)} {T : List TurnP} (hl : T.length = L.length) (h : ∀ (i : Nat) (d : List Dat) (x : TurnP), L[i]? = some d → T[i]? = some x → R d x) {o : List Dat} {x : TurnP} (hx : R o x) :
    ∀ (i : Nat) (d : List Dat) (y : TurnP), (L ++ [o])[i]? = some d → (T ++ [x])[i]? = some y → R d y := fun i d y hd hy => by
  by_cases hi : i < L.length
  · rw [List.getElem?_append_left hi] at hd
    rw [List.getElem?_append_left (by omega)] at hy
    exact h i d y hd hy
  · rw [List.getElem?_append_right (by omega)] at hd hy
    rw [hl] at hy
    cases hk : i - L.length with
    | zero => rw [hk] at hd hy; simp at hd hy; subst hd hy; exact hx
    | succ k => rw [hk] at hd; simp at hd
theorem mayD_live {d : Dat} (h : mayD d = true) : d.fr < d.til := by
  unfold mayD at h
  exact of_decide_eq_true (Bool.and_eq_true_iff.1 h).2
/-- a transaction was found that adds and cuts -/
def TStop (w W0 : World) (M bF bE : Nat) (r : List Dat) (cd : Code) (pre : List (Fin (runsL (fun d : Dat => d.t) r).length)) (W : World) : Prop :=
  cd = .exit 0 ∧ (∃ j ∈ pre, Clash (runsL (fun d : Dat => d.t) r)[j.val]) ∧ Boxed W bF 24 (.slice none 0 0) ∧ Boxed W bE 22 (.int .i64 60) ∧ KeepsFrom M W0 W ∧ Below w.heap.size w W
theorem tStop_own (w W0 : World) (M M2 bF bE : Nat) (r : List Dat) (h0 : w.heap.size ≤ M2) (h1 : W0.heap.size ≤ M2) (hF : bF < M2) (hE : bE < M2) (cd : Code) : OwnFrom M2 (TStop w W0 M bF bE r cd) := fun pre X Y row ⟨e, g1, g2, g3, g4, g5⟩ hg hr =>
  ⟨e, g1, g2.kept hg (fun e => by have := (hr _ e.symm).1; omega), g3.kept hg (fun e => by have := (hr _ e.symm).1; omega), ownFrom_keepsFrom (β := Unit) h1 () X Y row g4 hg hr, g5.grown hg g5.size (fun j ej => by have := (hr j ej).1; omega)⟩
/-- what stands behind some triples -/
def FMid (w W4 : World) (M bF : Nat) (S : List Dat) (pre : List (Fin (runsL triD S).length)) (W : World) : Prop :=
  M ≤ W.heap.size ∧ Below w.heap.size w W ∧ Kq M bF W4 W ∧ (∃ v ps, Boxed W bF 24 v ∧ OwnF W M v ps ∧ FoldsTo (pre.map (fun j => (runsL triD S)[j.val])) (ps.map (·.1)) ∧ ∀ p ∈ ps, p.1.l.length ≤ 3000) ∧ ∀ j ∈ pre, ∀ o ∈ timesL (runsL triD S)[j.val], ¬ Clash o
theorem fMid_own (w W4 : World) (M bF : Nat) (S : List Dat) (h0 : w.heap.size ≤ M) (hF : bF < M) : OwnFrom M (FMid w W4 M bF S) := fun pre X Y row ⟨g1, g2, g3, ⟨v, ps, g4, g5, g6, g8⟩, g7⟩ hg hr => by
  have hne : ∀ b, b < M → some b ≠ row := fun b hb e => by have := (hr b e.symm).1; omega
  refine ⟨Nat.le_trans g1 hg.size, g2.grown hg g2.size (fun j ej => by have := (hr j ej).1; omega), g3.trans ⟨hg.size, fun k hk _ => hg.block k (by omega) (hne k hk)⟩, ⟨v, ps, g4.kept hg (hne _ hF), g5.kept hg (fun r e => (hr r e).2), g6, g8⟩, g7⟩
def FStop (w : World) (bF bE : Nat) (S : List Dat) (cd : Code) (pre : List (Fin (runsL triD S).length)) (W : World) : Prop :=
  cd = .exit 0 ∧ (∃ j ∈ pre, ∃ o ∈ timesL (runsL triD S)[j.val], Clash o) ∧ Boxed W bF 24 (.slice none 0 0) ∧ Boxed W bE 22 (.int .i64 60) ∧ Below w.heap.size w W
theorem fStop_own (w : World) (M bF bE : Nat) (S : List Dat) (h0 : w.heap.size ≤ M) (hF : bF < M) (hE : bE < M) (cd : Code) : OwnFrom M (FStop w bF bE S cd) := fun pre X Y row ⟨e, g1, g2, g3, g5⟩ hg hr =>
  ⟨e, g1, g2.kept hg (fun e => by have := (hr _ e.symm).1; omega), g3.kept hg (fun e => by have := (hr _ e.symm).1; omega), g5.grown hg g5.size (fun j ej => by have := (hr j ej).1; omega)⟩
theorem OwnF.low {W : World} {B B' : Nat} {v : Value} {ps : List (FactP × Value)} (h : OwnF W B v ps) (hB : B' ≤ B) : OwnF W B' v ps := by
  refine ⟨⟨h.1.1, ?_⟩, h.2⟩
  rcases h.1.2 with h1 | ⟨g, cap, cur, e, h1, h2⟩
  · exact .inl h1
  · exact .inr ⟨g, cap, cur, e, Nat.le_trans hB h1, h2⟩
/-- What Fold answers of datoms that each may be. -/
def FoldEnd (w : World) (l : List Dat) (e : Ending) (w' : World) : Prop :=
  (∃ v ec, e = .returned (.tuple #[v, .int .i64 ec]) ∧ ((ec = 0 ∧ Goes (sortsD 1 l) ∧ ∃ fs, FoldsTo (runsL triD (sortsD 1 l)) fs ∧ FV w' v fs ∧ (∀ f ∈ fs, f.l.length ≤ 3000) ∧ ∃ ps, OwnF w' w.heap.size v ps ∧ ps.map (·.1) = fs) ∨ (ec = 60 ∧ v = .slice none 0 0 ∧ ¬ Goes (sortsD 1 l)))) ∧ Below w.heap.size w w'
theorem sorts_mem {l : List Dat} {d : Dat} (h : d ∈ sortsD 1 l) : d ∈ l := by
  have e1 : isO 1 = true := rfl
  unfold sortsD at h
  rw [if_pos e1] at h
  have h2 := (putsG_from (ordD_is e1) (l.filter (hasD 1)) [] (by unfold Ups; exact List.Pairwise.nil)).2 d
  unfold putsG at h
  rw [h2] at h
  rcases h with h | h
  · cases h
  · exact (List.mem_filter.1 h).1
theorem sorts_few (l : List Dat) : (sortsD 1 l).length ≤ l.length := by
  refine nodup_few _ _ ?_ fun x hx => sorts_mem hx
  have e1 : isO 1 = true := rfl
  have h2 := (putsG_from (ordD_is e1) (l.filter (hasD 1)) [] (by unfold Ups; exact List.Pairwise.nil)).1
  unfold sortsD
  rw [if_pos e1]
  unfold putsG
  refine List.Pairwise.imp (fun {a b} h => ?_) h2
  rintro rfl
  have := ((ordD_is e1).zero a a).2 rfl
  omega
theorem foldsTo_run {rs : List (List Dat)} {fs : List FactP} {r : List Dat} {l : List Sp} (h : FoldsTo rs fs) (hr : r ≠ []) (hl : HeldL r l) : FoldsTo (rs ++ [r]) (if l = [] then fs else fs ++ [factD (headD r) l]) := by
  cases r with
  | nil => exact absurd rfl hr
  | cons d r => exact foldsTo_snoc h hl
theorem fact_step {W w1 : World} {M bF B0 : Nat} {v v' : Value} {ps : List (FactP × Value)} {tmp : Obj} (hv : Boxed W bF 24 v) (h : OwnF W M v ps) (hM : M ≤ W.heap.size) (hF : bF < M) (hB : B0 ≤ bF) (hgrow : (W.alloc tmp).grownBy w1 v.ownBlock) :
    Boxed w1 bF 24 v ∧ Boxed (w1.setCell ⟨bF, 0, none⟩ v') bF 24 v' ∧ KeepsOthers W (w1.setCell ⟨bF, 0, none⟩ v') ∧ Kq M bF W (w1.setCell ⟨bF, 0, none⟩ v') ∧ Below B0 W (w1.setCell ⟨bF, 0, none⟩ v') := by
  have hrow := h.1
  have hv1 : Boxed w1 bF _ v := (hv.alloc tmp).kept hgrow (hv.not_row (by decide) hrow)
  have hlo : ∀ j, v.ownBlock = some j → M ≤ j := fun j ej => (World.ownsRow.lt hrow j ej).1
  refine ⟨hv1, hv1.set v', ?_, ?_, ?_⟩
  · refine ((KeepsOthers.alloc W tmp).trans (KeepsOthers.of_grownBy hgrow fun j o ej hj => ?_)).trans (KeepsOthers.setCell _ _ _)
    rcases (World.ownsRow.alloc hrow tmp).2 with ⟨rfl, _⟩ | ⟨g, cap, cur, rfl, _, hgb, _⟩
    · simp [Value.ownBlock] at ej
    · obtain rfl : g = j := by simpa [Value.ownBlock] using ej
      rw [hgb] at hj; cases hj; rfl
  · have hs := hgrow.size
    rw [World.size_alloc] at hs
    refine Kq.trans ⟨(by omega : W.heap.size ≤ w1.heap.size), fun k hk _ => ?_⟩ kq_set
    exact (hgrow.block k (by rw [World.size_alloc]; omega) (fun e => by have := hlo k e.symm; omega)).trans (Below.heap_alloc _ _ _ (by omega))
  · exact (((Below.refl B0 W).alloc (by omega) tmp).grown hgrow (by simp; omega) fun j ej => by have := hlo j ej; omega).setCell (p := ⟨bF, 0, none⟩) hB v'
end Go.Proofs.Ytbcdkfolmncjlaa

/-
  PLAIN FACTS: how triples stand; which facts may be; what datoms are folded to may be.
-/
namespace Go.Proofs.Ytbcdkfolmncjlaa
open VOrd (IsOrd lexO lex_is ordI_is ordT_is ordT)

/-- how two triples stand -/
def ordTr (x y : Int × Int × Int × Int × ByteArray) : Int := lexO ordI (lexO ordI ordT) x y
theorem ordTr_is : IsOrd ordTr := lex_is ordI_is (lex_is ordI_is ordT_is)
def triF (f : FactP) : Int × Int × Int × Int × ByteArray := (f.e, f.a, f.k, f.m, f.s)
/-- a datom that has all but the triple as it may be -/
def datF (f : FactP) : Dat := ⟨f.e, f.a, f.k, f.m, f.s, 1, false, 0, 1⟩
def mayF (f : FactP) : Bool := mayD (datF f) && decide (0 < f.l.length) && setB f.l
def RiseF (fs : List FactP) : Prop := fs.Pairwise fun x y => ordTr (triF x) (triF y) < 0
instance (fs : List FactP) : Decidable (RiseF fs) := inferInstanceAs (Decidable (fs.Pairwise fun x y => ordTr (triF x) (triF y) < 0))
/-- facts may be -/
def MayFs (fs : List FactP) : Prop := (∀ f ∈ fs, mayF f = true) ∧ RiseF fs
instance (fs : List FactP) : Decidable (MayFs fs) := inferInstanceAs (Decidable ((∀ f ∈ fs, mayF f = true) ∧ RiseF fs))
def mayFs (fs : List FactP) : Bool := decide (MayFs fs)
/-- one fact, behind the one ahead of it -/
def FOk (fs : List FactP) (i : Nat) : Prop := ∀ f, fs[i]? = some f → mayF f = true ∧ ∀ p, 0 < i → fs[i - 1]? = some p → ordTr (triF p) (triF f) < 0
theorem mayFs_all {fs : List FactP} (h : ∀ i, i < fs.length → FOk fs i) : mayFs fs = true := by
  refine decide_eq_true ⟨fun f hf => ?_, ?_⟩
  · obtain ⟨i, hi, rfl⟩ := List.mem_iff_getElem.1 hf
    exact (h i hi _ (List.getElem?_eq_getElem hi)).1
  · have step : ∀ (j : Nat) (hj : j + 1 < fs.length), ordTr (triF (fs[j]'(by omega))) (triF fs[j + 1]) < 0 := fun j hj => by
      have := (h (j + 1) hj _ (List.getElem?_eq_getElem hj)).2 (fs[j]'(by omega)) (by omega) (List.getElem?_eq_getElem (by omega))
      exact this
    have far : ∀ (n i : Nat) (hn : i + n + 1 < fs.length), ordTr (triF (fs[i]'(by omega))) (triF fs[i + n + 1]) < 0 := fun n => by
      induction n with
      | zero => exact fun i hn => step i hn
      | succ n ih => exact fun i hn => ordTr_is.lt (ih i (by omega)) (Int.le_of_lt (step (i + n + 1) (by omega)))
    show fs.Pairwise _
    rw [List.pairwise_iff_getElem]
    intro i j hi hj hij
    obtain ⟨n, rfl⟩ : ∃ n, j = i + n + 1 := ⟨j - i - 1, by omega⟩
    exact far n i hj
theorem fOk_of {fs : List FactP} (h : mayFs fs = true) (i : Nat) : FOk fs i := fun f hf => by
  obtain ⟨h1, h2⟩ := of_decide_eq_true h
  refine ⟨h1 f (List.mem_of_getElem? hf), fun p hi hp => ?_⟩
  obtain ⟨g1, rfl⟩ := List.getElem?_eq_some_iff.1 hf
  obtain ⟨g2, rfl⟩ := List.getElem?_eq_some_iff.1 hp
  exact List.pairwise_iff_getElem.1 h2 (i - 1) i g2 g1 (by omega)
theorem mayFs_no {fs : List FactP} {i : Nat} (h : ¬ FOk fs i) : mayFs fs = false := by
  cases hm : mayFs fs with
  | false => rfl
  | true => exact absurd (fOk_of hm i) h

theorem mem_factsOf : ∀ (rs : List (List Dat)) (ls : List (List Sp)) (f : FactP), f ∈ factsOf rs ls → ∃ (i : Nat) (d : Dat) (r : List Dat) (l : List Sp), rs[i]? = some (d :: r) ∧ ls[i]? = some l ∧ l ≠ [] ∧ f = factD d l
  | [], _, f, h => by cases h
  | _ :: _, [], f, h => by cases h
  | r :: rs, l :: ls, f, h => by
    rw [factsOf_cons] at h
    rcases List.mem_append.1 h with h | h
    · cases r with
      | nil => cases h
      | cons d r =>
        unfold factOf at h
        simp only at h
        by_cases hl : l = []
        · rw [if_pos hl] at h; cases h
        · rw [if_neg hl] at h
          exact ⟨0, d, r, l, rfl, rfl, hl, List.mem_singleton.1 h⟩
    · obtain ⟨i, d, q, m, h1, h2, h3, h4⟩ := mem_factsOf rs ls f h
      exact ⟨i + 1, d, q, m, by simpa using h1, by simpa using h2, h3, h4⟩
theorem factsOf_mem : ∀ (rs : List (List Dat)) (ls : List (List Sp)) (i : Nat) (d : Dat) (r : List Dat) (l : List Sp), rs[i]? = some (d :: r) → ls[i]? = some l → l ≠ [] → factD d l ∈ factsOf rs ls
  | [], _, i, d, r, l, h, _, _ => by simp at h
  | _ :: _, [], i, d, r, l, _, h, _ => by simp at h
  | q :: rs, m :: ls, 0, d, r, l, h, h', hl => by
    simp at h h'
    subst h h'
    rw [factsOf_cons]
    refine List.mem_append_left _ ?_
    unfold factOf
    simp [hl]
  | q :: rs, m :: ls, i + 1, d, r, l, h, h', hl => by
    rw [factsOf_cons]
    exact List.mem_append_right _ (factsOf_mem rs ls i d r l (by simpa using h) (by simpa using h') hl)
theorem factsOf_rise : ∀ (rs : List (List Dat)) (ls : List (List Sp)), (rs.Pairwise fun r r' => ∀ x ∈ r, ∀ y ∈ r', ordTr (triD x) (triD y) < 0) → RiseF (factsOf rs ls)
  | [], _, _ => List.Pairwise.nil
  | _ :: _, [], _ => List.Pairwise.nil
  | r :: rs, l :: ls, h => by
    obtain ⟨h1, h2⟩ := List.pairwise_cons.1 h
    show ((factOf r l ++ factsOf rs ls)).Pairwise _
    rw [List.pairwise_append]
    refine ⟨?_, factsOf_rise rs ls h2, fun x hx y hy => ?_⟩
    · unfold factOf
      cases r with
      | nil => exact List.Pairwise.nil
      | cons d r =>
        simp only
        split
        · exact List.Pairwise.nil
        · exact List.pairwise_singleton _ _
    · cases r with
      | nil => cases hx
      | cons d r =>
        unfold factOf at hx
        simp only at hx
        split at hx
        · cases hx
        · rw [List.mem_singleton.1 hx]
          obtain ⟨i, d', r', l', g1, _, _, rfl⟩ := mem_factsOf rs ls y hy
          exact h1 (d' :: r') (List.mem_of_getElem? g1) d (by simp) d' (by simp)

theorem ord1_lex (x y : Dat) : ordD 1 x y = lexO ordI (lexO ordI (lexO ordT tailO)) (x.e, (x.a, (valD x, tailD x))) (y.e, (y.a, (valD y, tailD y))) := by
  unfold ordD
  rw [if_pos (by rfl), partsD_1, partsD_1]
  show (if ordI x.e y.e = 0 then (if ordI x.a y.a = 0 then (if ordT (valD x) (valD y) = 0 then ordK [numP x.t, numP (cutN x.add), numP x.fr, numP x.til] [numP y.t, numP (cutN y.add), numP y.fr, numP y.til] else ordT (valD x) (valD y)) else ordI x.a y.a) else ordI x.e y.e) = _
  rw [ordK_tail]; rfl
/-- datoms in order stand by their triples first -/
theorem ord1_tri {x y : Dat} (h : ordD 1 x y < 0) : (triD x = triD y ∧ tailO (tailD x) (tailD y) < 0) ∨ ordTr (triD x) (triD y) < 0 := by
  rw [ord1_lex] at h
  have hT : ordTr (triD x) (triD y) = if ordI x.e y.e = 0 then (if ordI x.a y.a = 0 then ordT (valD x) (valD y) else ordI x.a y.a) else ordI x.e y.e := rfl
  have h' : (if ordI x.e y.e = 0 then (if ordI x.a y.a = 0 then (if ordT (valD x) (valD y) = 0 then tailO (tailD x) (tailD y) else ordT (valD x) (valD y)) else ordI x.a y.a) else ordI x.e y.e) < 0 := h
  rw [hT]
  by_cases h1 : ordI x.e y.e = 0
  · rw [if_pos h1] at h' ⊢
    by_cases h2 : ordI x.a y.a = 0
    · rw [if_pos h2] at h' ⊢
      by_cases h3 : ordT (valD x) (valD y) = 0
      · rw [if_pos h3] at h'
        refine .inl ⟨?_, h'⟩
        have e1 := (ordI_is.zero _ _).1 h1
        have e2 := (ordI_is.zero _ _).1 h2
        have e3 := (ordT_is.zero _ _).1 h3
        unfold valD at e3
        simp only [Prod.mk.injEq] at e3
        unfold triD
        rw [e1, e2, e3.1, e3.2.1, e3.2.2]
      · rw [if_neg h3] at h'
        exact .inr h'
    · rw [if_neg h2] at h' ⊢
      exact .inr h'
  · rw [if_neg h1] at h' ⊢
    exact .inr h'
theorem sorts_ups (l : List Dat) : Ups (ordD 1) (sortsD 1 l) ∧ ∀ z, z ∈ sortsD 1 l ↔ z ∈ l := by
  have e1 : isO 1 = true := rfl
  have h2 := putsG_from (ordD_is e1) (l.filter (hasD 1)) [] (by unfold Ups; exact List.Pairwise.nil)
  unfold sortsD
  rw [if_pos e1]
  unfold putsG
  refine ⟨h2.1, fun z => ?_⟩
  rw [h2.2 z, List.mem_filter]
  have : hasD 1 z = true := by unfold hasD; simp
  simp [this]
theorem tri_trans (a b c : Int × Int × Int × Int × ByteArray) (h : ordTr a b < 0) (h' : ordTr b c < 0) : ordTr a c < 0 := ordTr_is.lt h (Int.le_of_lt h')
theorem tri_irr (a : Int × Int × Int × Int × ByteArray) : ¬ ordTr a a < 0 := by
  have := (ordTr_is.zero a a).2 rfl
  omega
/-- runs of datoms in order rise by their triples -/
theorem runs_rise (l : List Dat) : (runsL triD (sortsD 1 l)).Pairwise fun r r' => ∀ x ∈ r, ∀ y ∈ r', ordTr (triD x) (triD y) < 0 :=
  runsL_rise triD (R := fun a b => ordTr a b < 0) tri_trans _ _ (Nat.le_refl _) ((sorts_ups l).1.imp fun h => (ord1_tri h).imp And.left id)
theorem foldsTo_may {l : List Dat} {fs : List FactP} (hm : notMay l = false) (h : FoldsTo (runsL triD (sortsD 1 l)) fs) : mayFs fs = true := by
  obtain ⟨ls, h1, h2, rfl⟩ := h
  refine decide_eq_true ⟨fun f hf => ?_, factsOf_rise _ _ (runs_rise l)⟩
  obtain ⟨i, d, r, q, g1, g2, g3, rfl⟩ := mem_factsOf _ _ f hf
  have hd : d ∈ l := ((sorts_ups l).2 d).1 (run_mem triD (List.mem_of_getElem? g1) (by simp))
  unfold notMay at hm
  rw [List.any_eq_false] at hm
  have hmd : mayD d = true := by simpa using hm d hd
  have hset := (h2 i _ _ g1 g2).1
  unfold mayF
  rw [Bool.and_eq_true_iff, Bool.and_eq_true_iff]
  refine ⟨⟨?_, decide_eq_true (List.length_pos_iff.2 g3)⟩, decide_eq_true hset⟩
  unfold mayD at hmd ⊢
  simp only [Bool.and_eq_true] at hmd ⊢
  exact ⟨⟨hmd.1.1, decide_eq_true (show (1 : Int) ≤ 1 ∧ (1 : Int) ≤ 1099511627776 by omega)⟩, decide_eq_true (show (0 : Int) < 1 by omega)⟩
/-- the instants of a triple -/
def spansOf (fs : List FactP) (x : Int × Int × Int × Int × ByteArray) : List Sp := match fs.find? (fun f => decide (triF f = x)) with
  | some f => f.l
  | none => []
theorem rise_one {fs : List FactP} (h : RiseF fs) {f g : FactP} (hf : f ∈ fs) (hg : g ∈ fs) (e : triF f = triF g) : f = g := by
  obtain ⟨i, hi, rfl⟩ := List.mem_iff_getElem.1 hf
  obtain ⟨j, hj, rfl⟩ := List.mem_iff_getElem.1 hg
  rcases Nat.lt_trichotomy i j with hij | hij | hij
  · have := List.pairwise_iff_getElem.1 h i j hi hj hij
    rw [e] at this
    exact absurd this (tri_irr _)
  · subst hij; rfl
  · have := List.pairwise_iff_getElem.1 h j i hj hi hij
    rw [e] at this
    exact absurd this (tri_irr _)
theorem spansOf_mem {fs : List FactP} (h : RiseF fs) {f : FactP} (hf : f ∈ fs) : spansOf fs (triF f) = f.l := by
  unfold spansOf
  cases hq : fs.find? (fun g => decide (triF g = triF f)) with
  | none =>
    have := List.find?_eq_none.1 hq f hf
    simp at this
  | some g =>
    have h1 := List.mem_of_find?_eq_some hq
    have h2 := List.find?_some hq
    rw [rise_one h h1 hf (of_decide_eq_true h2)]
theorem spansOf_none {fs : List FactP} {x : Int × Int × Int × Int × ByteArray} (h : ∀ f ∈ fs, triF f ≠ x) : spansOf fs x = [] := by
  unfold spansOf
  cases hq : fs.find? (fun g => decide (triF g = x)) with
  | none => rfl
  | some g =>
    have h2 := List.find?_some hq
    exact absurd (of_decide_eq_true h2) (h g (List.mem_of_find?_eq_some hq))
end Go.Proofs.Ytbcdkfolmncjlaa

/-
  CONTRACT: the document's Same of two lists of facts that are equal.
-/
namespace Go.Proofs.Ytbcdkfolmncjlaa
open Go.RowKit Go.Shelf

/-- a fact's cells, the value of its spans named -/
def FcV (W : World) (b o : Nat) (f : FactP) (sv : Value) : Prop := W.cell? ⟨b, o, none⟩ = some (.int .i64 f.e) ∧ W.cell? ⟨b, o + 1, none⟩ = some (.int .i64 f.a) ∧ W.cell? ⟨b, o + 2, none⟩ = some (.int .i64 f.k) ∧ W.cell? ⟨b, o + 2 + 1, none⟩ = some (.int .i64 f.m) ∧ W.cell? ⟨b, o + 2 + 2, none⟩ = some (.string f.s) ∧ W.cell? ⟨b, o + 5, none⟩ = some sv
def SmS (b o b' o' : Nat) (f : FactP) (sv sv' : Value) (W : World) : Prop := FcV W b o f sv ∧ FcV W b' o' f sv' ∧ SV W sv f.l ∧ SV W sv' f.l ∧ b < W.heap.size ∧ b' < W.heap.size
theorem FcV.next {W W' : World} {b o : Nat} {f : FactP} {sv : Value} (h : FcV W b o f sv) (hb : Below W.heap.size W W') (hlt : b < W.heap.size) : FcV W' b o f sv := by
  have up : ∀ i u, W.cell? ⟨b, i, none⟩ = some u → W'.cell? ⟨b, i, none⟩ = some u := fun i u h => (hb.cell (p := ⟨b, i, none⟩) hlt).trans h
  exact ⟨up _ _ h.1, up _ _ h.2.1, up _ _ h.2.2.1, up _ _ h.2.2.2.1, up _ _ h.2.2.2.2.1, up _ _ h.2.2.2.2.2⟩
theorem SmS.next {b o b' o' : Nat} {f : FactP} {sv sv' : Value} {W W' : World} (h : SmS b o b' o' f sv sv' W) (hb : Below W.heap.size W W') : SmS b o b' o' f sv sv' W' :=
  ⟨h.1.next hb h.2.2.2.2.1, h.2.1.next hb h.2.2.2.2.2, h.2.2.1.next hb, h.2.2.2.1.next hb, Nat.lt_of_lt_of_le h.2.2.2.2.1 hb.size, Nat.lt_of_lt_of_le h.2.2.2.2.2 hb.size⟩
theorem fv_at {W : World} {A : Option Addr} {c : Nat} {fs : List FactP} (h : FV W (.slice A fs.length c) fs) {j : Nat} (hj : j < fs.length) : ∃ b o sv, A = some ⟨b, o, none⟩ ∧ b < W.heap.size ∧ FcV W b (o + j * 6) fs[j] sv ∧ SV W sv fs[j].l := by
  obtain ⟨A2, c2, e, hs, _⟩ := h
  injection e with e _ _
  subst e
  obtain ⟨b, o, e, hlt, hc⟩ := hs (List.length_pos_iff.1 (by omega))
  obtain ⟨c0, c1, c2, c3, c4, sv, c5, hsv⟩ := hc j _ (List.getElem?_eq_getElem hj)
  exact ⟨b, o, sv, e, hlt, ⟨c0, c1, c2, c3, c4, c5⟩, hsv⟩
end Go.Proofs.Ytbcdkfolmncjlaa

