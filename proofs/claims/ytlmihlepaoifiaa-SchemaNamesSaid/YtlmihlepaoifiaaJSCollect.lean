/-
  CONTRACTS: slices.Values, AppendSeq, Collect (of spans).
-/
import Derived.Test.YtlmihlepaoifiaaJSChosen
namespace Go.Proofs.Ytlmihlepaoifiaa
open Go.RowKit Go.Shelf
attribute [local go_sem] Oper.semAt_some

/-- what stands behind some rounds of AppendSeq -/
def VMid (w : World) (N : Nat) (pre : List Sp) (W : World) : Prop :=
  ∃ v, Boxed W w.heap.size 28 v ∧ OwnS W w.heap.size v pre ∧ Below w.heap.size w W ∧ pre.length ≤ N
theorem VMid.alloc {w : World} {N : Nat} {pre : List Sp} {W : World} (h : VMid w N pre W) (o : Obj) : VMid w N pre (W.alloc o) := by
  obtain ⟨v, g1, g2, g6, g8⟩ := h
  exact ⟨v, g1.alloc _, g2.alloc _, g6.alloc g6.size _, g8⟩

end Go.Proofs.Ytlmihlepaoifiaa
