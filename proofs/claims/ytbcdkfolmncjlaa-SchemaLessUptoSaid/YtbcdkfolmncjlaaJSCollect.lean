/-
  CONTRACTS: slices.Values, AppendSeq, Collect (of spans).
-/
import Derived.Test.YtbcdkfolmncjlaaJSChosen
namespace Go.Proofs.Ytbcdkfolmncjlaa
open Go.RowKit Go.Shelf
attribute [local go_sem] Oper.semAt_some

/-- One round of the loop that is handed spans. -/
def HandsV (B l N : Nat) (J Jx : List Sp → World → Prop) : Prop :=
  ∀ m pre (x : Sp) W, J pre W → pre.length < N → YieldAt Fence.wide m Try.prog l #[.agg #[.int .i64 x.1, .int .i64 x.2]] W fun e W' =>
    (e = .returned (.bool true) ∧ J (pre ++ [x]) W' ∧ Below B W W') ∨ (e = .returned (.bool false) ∧ Jx (pre ++ [x]) W')

/-- what stands behind some rounds of AppendSeq -/
def VMid (w : World) (N : Nat) (pre : List Sp) (W : World) : Prop :=
  ∃ v, Boxed W w.heap.size 28 v ∧ OwnS W w.heap.size v pre ∧ Below w.heap.size w W ∧ pre.length ≤ N
theorem vMid_own (w : World) (N : Nat) : OwnFrom (w.heap.size + 1) (VMid w N) := fun pre X Y row ⟨v, g1, g2, g6, g8⟩ hg hr => by
  have hne : ∀ b, b < w.heap.size + 1 → some b ≠ row := fun b hb e => by have := (hr b e.symm).1; omega
  exact ⟨v, g1.kept hg (hne _ (by omega)), g2.kept hg (fun r e => (hr r e).2), g6.grown hg g6.size (fun j ej => by have := (hr j ej).1; omega), g8⟩
theorem VMid.alloc {w : World} {N : Nat} {pre : List Sp} {W : World} (h : VMid w N pre W) (o : Obj) : VMid w N pre (W.alloc o) := by
  obtain ⟨v, g1, g2, g6, g8⟩ := h
  exact ⟨v, g1.alloc _, g2.alloc _, g6.alloc g6.size _, g8⟩

end Go.Proofs.Ytbcdkfolmncjlaa
