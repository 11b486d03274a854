import Derived.RangeFuncBox
import Derived.Test.YtlmihlepaoifiaaJDSl
import Derived.Test.YtlmihlepaoifiaaJSSet
import Derived.Test.YtlmihlepaoifiaaJFLastP
import Derived.Test.YtlmihlepaoifiaaJOWords
/-
  THE LAW SpanHas: its walk.
-/
namespace Go.Proofs.Ytlmihlepaoifiaa
open Go.RowKit Go.Shelf

end Go.Proofs.Ytlmihlepaoifiaa

/-
  CONTRACTS: Or, And, Minus by their instants; then.
-/
namespace Go.Proofs.Ytlmihlepaoifiaa
open Go.RowKit Go.Shelf

/-- a slice's block is one of spans -/
def OfT (W : World) (A : Option Addr) (l : List Sp) : Prop := l ≠ [] → ∃ b o cs fr, A = some ⟨b, o, none⟩ ∧ W.heap[b]? = some (.cells cs 34 fr)
/-- a value that reads as a set's spans -/
def SV (W : World) (v : Value) (l : List Sp) : Prop := ∃ A c, v = .slice A l.length c ∧ SlS W W.heap.size A l ∧ l.length ≤ c ∧ c ≤ maxLen ∧ OfT W A l
theorem SV.next {W W' : World} {v : Value} {l : List Sp} (h : SV W v l) (hb : Below W.heap.size W W') : SV W' v l := by
  obtain ⟨A, c, e, h1, h2, h3, h4⟩ := h
  refine ⟨A, c, e, (h1.next hb (Nat.le_refl _)).more hb.size, h2, h3, fun hl => ?_⟩
  obtain ⟨b, o, cs, fr, e, hc⟩ := h4 hl
  exact ⟨b, o, cs, fr, e, (hb.block b (Array.getElem?_eq_some_iff.1 hc).1).trans hc⟩
end Go.Proofs.Ytlmihlepaoifiaa
