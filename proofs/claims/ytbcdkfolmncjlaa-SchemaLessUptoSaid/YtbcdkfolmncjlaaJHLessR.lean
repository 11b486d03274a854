/-
  A row of facts that the call has to itself, whose spans lie anywhere: among what was there when it began, or in blocks of spans' type.
-/
import Derived.Test.YtbcdkfolmncjlaaJFMay
import Derived.Test.YtbcdkfolmncjlaaJFSame
namespace Go.Proofs.Ytbcdkfolmncjlaa
open Go.RowKit Go.Shelf

def SX (W : World) (B : Nat) (v : Value) (l : List Sp) : Prop := SV W v l ∨ ∃ A c, v = .slice A l.length c ∧ SlS W B A l ∧ l.length ≤ c ∧ c ≤ maxLen
theorem SX.next {W W' : World} {B : Nat} {v : Value} {l : List Sp} (h : SX W B v l) (hb : Below W.heap.size W W') (hB : B ≤ W.heap.size) : SX W' B v l := by
  rcases h with h | ⟨A, c, e, h1, h2⟩
  · exact .inl (h.next hb)
  · exact .inr ⟨A, c, e, h1.next hb hB, h2⟩
theorem SX.a {W : World} {B : Nat} {v : Value} {l : List Sp} (h : SX W B v l) (hB : B ≤ W.heap.size) : SVa W v l := by
  rcases h with h | ⟨A, c, e, h1, h2⟩
  · exact h.a
  · exact ⟨A, c, e, h1.more hB, h2⟩
def OwnX (W : World) (B : Nat) (v : Value) (ps : List (FactP × Value)) : Prop := W.ownsRow B 30 6 v ps.length (ps.flatMap cellsF) ∧ ∀ p ∈ ps, SX W B p.2 p.1.l
theorem ownX_nil (W : World) (B : Nat) : OwnX W B (.slice none 0 0) [] := ⟨World.ownsRow_nil _ _ _ _, fun _ h => by cases h⟩
theorem OwnX.next {W W' : World} {B : Nat} {v : Value} {ps : List (FactP × Value)} (h : OwnX W B v ps) (hb : Below W.heap.size W W') (hB : B ≤ W.heap.size) : OwnX W' B v ps := by
  refine ⟨World.ownsRow.kept h.1 (grown_below hb) ?_, fun p hp => (h.2 p hp).next hb hB⟩
  rcases h.1.2 with ⟨rfl, _⟩ | ⟨g, cap, cur, rfl, _, hgb, _⟩
  · exact .inl rfl
  · exact .inr (fun e => by cases e)
theorem OwnX.fva {W : World} {B : Nat} {v : Value} {ps : List (FactP × Value)} (h : OwnX W B v ps) (hB : B ≤ W.heap.size) : FVa W v (ps.map (·.1)) := by
  rcases h.1.2 with ⟨rfl, h0⟩ | ⟨g, cap, cur, rfl, hgB, hgb, hlc, hcm, _⟩
  · have : ps = [] := List.length_eq_zero_iff.1 h0
    subst this
    exact ⟨none, 0, rfl, fun hl => absurd rfl hl, Nat.le_refl _, Nat.zero_le _⟩
  · refine ⟨_, _, by rw [List.length_map], fun _ => ⟨g, 0, rfl, (Array.getElem?_eq_some_iff.1 hgb).1, fun j x hx => ?_⟩, by rw [List.length_map]; exact hlc, hcm⟩
    rw [List.getElem?_map] at hx
    obtain ⟨p, hp, rfl⟩ := Option.map_eq_some_iff.1 hx
    have hc : ∀ i u, i < 6 → (cellsF p)[i]? = some u → W.cell? ⟨g, 0 + j * 6 + i, none⟩ = some u := fun i u hi hu => by
      have := World.ownsRow.cells h.1 (g := g) rfl (j * 6 + i) u (by rw [flatG (enc := cellsF) (k := 6) (fun _ => rfl) hi, hp]; exact hu)
      rw [addI] at this
      rw [show (0 : Nat) + j * 6 + i = 0 + (j * 6 + i) by omega]
      exact this
    exact ⟨p.2, ⟨hc 0 _ (by decide) rfl, hc 1 _ (by decide) rfl, hc 2 _ (by decide) rfl, hc 3 _ (by decide) rfl, hc 4 _ (by decide) rfl, hc 5 _ (by decide) rfl⟩, (h.2 p (List.mem_of_getElem? hp)).a hB⟩
theorem below_ownX {W w1 : World} {B : Nat} {v : Value} {ps : List (FactP × Value)} (h : OwnX W B v ps) (hg : W.grownBy w1 v.ownBlock) (hB : B ≤ W.heap.size) : Below B W w1 :=
  (Below.refl B W).grown hg hB (fun k hk => (World.ownsRow.lt h.1 k hk).1)
/-- an append -/
theorem OwnX.snoc {W w1 : World} {B : Nat} {v v' : Value} {ps : List (FactP × Value)} {f : FactP} {vi : Value} (h : OwnX W B v ps) (hB : B ≤ W.heap.size) (hi : SX W B vi f.l)
    (hown' : w1.ownsRow B 30 6 v' (ps.length + 1) (ps.flatMap cellsF ++ cellsF (f, vi))) (hgrow : W.grownBy w1 v.ownBlock) : OwnX w1 B v' (ps ++ [(f, vi)]) := by
  have hb1 : Below B W w1 := below_ownX h hgrow hB
  refine ⟨?_, fun p hp => ?_⟩
  · simpa using hown'
  · have hp2 : SX W B p.2 p.1.l := by
      rcases List.mem_append.1 hp with hp | hp
      · exact h.2 p hp
      · rw [List.mem_singleton.1 hp]; exact hi
    rcases hp2 with hp2 | ⟨A, c, e, h1, h2⟩
    · exact .inl (hp2.other h.1 (by decide) hgrow)
    · exact .inr ⟨A, c, e, h1.next hb1 (Nat.le_refl _), h2⟩
/-- a store into a fact's box -/
theorem SV.boxF {W : World} {bx : Nat} {v u sv : Value} {l : List Sp} {f : FactP} (h : SV W v l) (hb : FcBx W bx f sv) : SV (W.setCell ⟨bx, 5, none⟩ u) v l := by
  have hg : W.grownBy (W.setCell ⟨bx, 5, none⟩ u) (some bx) := ⟨rfl, rfl, rfl, by simp, fun k _ h => Below.heap_setCell W ⟨bx, 5, none⟩ u k (fun e => h (by rw [e]))⟩
  refine h.off hg fun r e cs fr hc => ?_
  cases e
  rw [show W.heap[bx]? = _ from hb] at hc
  injection hc with hc
  injection hc with _ h2 _
  exact absurd h2 (by decide)
theorem FcBx.set5 {W : World} {bx : Nat} {v u : Value} {f : FactP} (hb : FcBx W bx f v) (l : List Sp) : FcBx (W.setCell ⟨bx, 5, none⟩ u) bx ⟨f.e, f.a, f.k, f.m, f.s, l⟩ u :=
  (heap_setCell_same _ _ _ _ _ _ hb).trans (by simp)
end Go.Proofs.Ytbcdkfolmncjlaa
