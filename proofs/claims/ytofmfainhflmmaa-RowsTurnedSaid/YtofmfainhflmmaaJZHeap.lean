/-
  A WORD: a cell of a block, stored.
-/
import Derived.Test.YtofmfainhflmmaaJZArgs
namespace Go.Proofs.Ytofmfainhflmmaa
open Go.RowKit

theorem heap_setCell_at {W : World} {B o : Nat} {cs : Array Value} {t : TypeId} {fr : Nat × Nat} (v' : Value) (h : W.heap[B]? = some (.cells cs t fr)) : (W.setCell ⟨B, o, none⟩ v').heap[B]? = some (.cells (cs.setIfInBounds o v') t fr) := by
  obtain ⟨hlt, hk⟩ := Array.getElem?_eq_some_iff.1 h
  show (W.heap.modify B _)[B]? = _
  rw [Array.getElem?_eq_getElem (by rw [Array.size_modify]; exact hlt), Array.getElem_modify_self, hk]
  rfl
end Go.Proofs.Ytofmfainhflmmaa
