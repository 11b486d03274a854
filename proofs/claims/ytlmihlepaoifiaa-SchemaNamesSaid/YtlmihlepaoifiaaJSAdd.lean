/-
  CONTRACT: what adds a span to a set (adderTo's value).
-/
import Derived.RangeFuncBox
import Derived.OwnWalk
import Derived.StillTailTactics
import Derived.Test.YtlmihlepaoifiaaJSSet
namespace Go.Proofs.Ytlmihlepaoifiaa
open Go.RowKit

def cellsS (s : Sp) : List Value := [.int .i64 s.1, .int .i64 s.2]
/-- a slice of spans in blocks from B on, which the call has to itself -/
def OwnS (W : World) (B : Nat) (v : Value) (l : List Sp) : Prop := W.ownsRow B 34 2 v l.length (l.flatMap cellsS)
theorem flatS {l : List Sp} {j i : Nat} (hi : i < 2) : (l.flatMap cellsS)[j * 2 + i]? = l[j]?.bind fun x => (cellsS x)[i]? := by
  induction l generalizing j with
  | nil => simp
  | cons x l ih =>
    cases j with
    | zero =>
      rw [List.flatMap_cons, List.getElem?_append_left (by show 0 * 2 + i < 2; omega)]
      simp
    | succ j =>
      have e : (j + 1) * 2 + i = 2 + (j * 2 + i) := by omega
      rw [List.flatMap_cons, e, List.getElem?_append_right (by show 2 ≤ _; omega), show (cellsS x).length = 2 from rfl, Nat.add_sub_cancel_left, ih]
      simp
theorem OwnS.kept {W W' : World} {B : Nat} {v : Value} {l : List Sp} {row : Option Nat} (h : OwnS W B v l) (hg : W.grownBy W' row) (hr : ∀ r, row = some r → ∃ o : Obj, W.heap[r]? = some o ∧ o.isCells = false) : OwnS W' B v l := by
  refine World.ownsRow.kept (row := row) h hg ?_
  rcases h.2 with ⟨rfl, _⟩ | ⟨g, cap, cur, rfl, _, hgb, _⟩
  · exact .inl rfl
  · refine .inr fun e => ?_
    obtain ⟨_, ho, hc⟩ := hr g (by rw [← e]; rfl)
    rw [hgb] at ho
    cases ho
    simp [Obj.isCells] at hc
theorem OwnS.alloc {W : World} {B : Nat} {v : Value} {l : List Sp} (h : OwnS W B v l) (o : Obj) : OwnS (W.alloc o) B v l := World.ownsRow.alloc h o
theorem OwnS.next {W W' : World} {B : Nat} {v : Value} {l : List Sp} (h : OwnS W B v l) (hb : Below W.heap.size W W') : OwnS W' B v l := h.kept (row := none) ⟨hb.os, hb.tape, hb.output, hb.size, fun k hk _ => hb.block k hk⟩ (fun r e => by cases e)

/-- a step that turns a box and a row alone -/
structure Adds (W W' : World) (Bs : Nat) (r : Option Nat) : Prop where
  os : W'.os = W.os
  tape : W'.tape = W.tape
  output : W'.output = W.output
  size : W.heap.size ≤ W'.heap.size
  block : ∀ k, k < W.heap.size → k ≠ Bs → some k ≠ r → W'.heap[k]? = W.heap[k]?
theorem OwnS.row {W : World} {B n : Nat} {v : Value} {l : List Sp} (h : OwnS W B v l) (hn : l.length = n) : W.ownsRow B 34 2 v n (l.flatMap cellsS) := by
  subst hn; exact h
theorem Adds.store {W W5 w4 : World} {Bs : Nat} {r : Option Nat} (h : Adds W W5 Bs r) (hs : W5.heap.size = W.heap.size + 1) (hg : W5.drew.grownBy w4 r) : Adds W w4 Bs r :=
  ⟨hg.os.trans h.os, hg.tape.trans h.tape, hg.output.trans h.output, by
    have h1 : W5.heap.size ≤ w4.heap.size := hg.size
    omega, fun k hk h1 h2 => (hg.block k (by show k < W5.heap.size; omega) h2).trans (h.block k hk h1 h2)⟩
end Go.Proofs.Ytlmihlepaoifiaa
