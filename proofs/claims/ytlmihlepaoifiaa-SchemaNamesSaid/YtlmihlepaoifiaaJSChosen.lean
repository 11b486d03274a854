/-
  CONTRACTS: chosen; Or, And, Minus.
-/
import Derived.Laws.EntriesVeiled
import Derived.Test.YtlmihlepaoifiaaJSToldS
import Derived.Test.YtlmihlepaoifiaaJSAdd
import Derived.Test.YtlmihlepaoifiaaJOEnd
namespace Go.Proofs.Ytlmihlepaoifiaa
open Go.RowKit Go.Shelf
attribute [local go_sem] Oper.semAt_some

def SpBox (W : World) (g : Nat) (s : Sp) : Prop := W.heap[g]? = some (.cells #[.int .i64 s.1, .int .i64 s.2] 34 (0, 0))
theorem SpBox.cell {W : World} {g : Nat} {s : Sp} (h : SpBox W g s) (j : Nat) : W.cell? ⟨g, j, none⟩ = (#[Value.int .i64 s.1, .int .i64 s.2])[j]? := by unfold SpBox at h; simp [World.cell?, h]
theorem SpBox.kept {W W' : World} {g : Nat} {s : Sp} {row : Option Nat} (h : SpBox W g s) (hg : W.grownBy W' row) (hr : ∀ r, row = some r → ∃ o : Obj, W.heap[r]? = some o ∧ o.isCells = false) : SpBox W' g s := by
  refine (hg.block g (Array.getElem?_eq_some_iff.1 h).1 fun e => ?_).trans h
  obtain ⟨o, ho, hc⟩ := hr g e.symm
  rw [show W.heap[g]? = _ from h] at ho
  cases ho
  simp [Obj.isCells] at hc
theorem live_of {l : List Sp} (h : setB l = true) (hk : ∀ s ∈ l, SpOk s) : Live l minT := by
  have hs : SetL l := of_decide_eq_true h
  exact ⟨hs, fun s hm => by have := hk s hm; have := hs.2 s hm; unfold SpOk at *; omega⟩

theorem isSet_is (A : Option Addr) (c : Nat) (l : List Sp) (w : World) (v : Bool) (hv : setB l = v) (hs : SlS w w.heap.size A l) (hl : l.length ≤ 100000) :
    Calls Try.prog 64 #[.slice A l.length c] w fun e w' => e = .returned (.bool v) ∧ Below w.heap.size w w' := by
  subst hv; exact isSet_any A c l w hs hl

end Go.Proofs.Ytlmihlepaoifiaa
