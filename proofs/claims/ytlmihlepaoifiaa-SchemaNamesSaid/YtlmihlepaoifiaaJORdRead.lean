import Derived.Test.YtlmihlepaoifiaaJOParts
import Derived.Test.YtlmihlepaoifiaaJOBkPure
import Derived.Test.YtlmihlepaoifiaaJOrd
import Derived.Test.YtlmihlepaoifiaaJRegion
import Derived.Shelf.Bytes.SlIndexAt
import Derived.Lib.IndexLaws
import Derived.WalkMore
import Derived.Laws.AppendOwnNone
import Derived.Test.YtlmihlepaoifiaaJORdNum
import Derived.Test.YtlmihlepaoifiaaJOKey
import Derived.Test.YtlmihlepaoifiaaJOBack
import Derived.OwnWalkIn
import Derived.RangeFuncNested
import Derived.Test.YtlmihlepaoifiaaJOEnd
/-
  CONTRACT: Compare of two lists of parts (the document's).
-/
namespace Go.Proofs.Ytlmihlepaoifiaa
open Go.RowKit Go.Shelf

end Go.Proofs.Ytlmihlepaoifiaa

/-
  CONTRACT: readValue (the program's).
-/
namespace Go.Proofs.Ytlmihlepaoifiaa
open Go.RowKit Go.Shelf

theorem ValAt.fz {W : World} {b : Nat} {k n : Int} {s : ByteArray} (h : ValAt W b k n s) (j : Nat) : W.frozen? ⟨b, j, none⟩ = false := by unfold ValAt at h; simp [World.frozen?, h]
theorem ValAt.far {W : World} {b b' j : Nat} {k n : Int} {s : ByteArray} (h : ValAt W b k n s) (hne : b ≠ b') (u : Value) : ValAt (W.setCell ⟨b', j, none⟩ u) b k n s :=
  (Below.heap_setCell W ⟨b', j, none⟩ u b hne).trans h
theorem ValAt.dr {W : World} {b : Nat} {k n : Int} {s : ByteArray} (h : ValAt W b k n s) : ValAt W.drew b k n s := h
end Go.Proofs.Ytlmihlepaoifiaa

/-
  CONTRACT: readPart (the program's).
-/
namespace Go.Proofs.Ytlmihlepaoifiaa
open Go.RowKit Go.Shelf

end Go.Proofs.Ytlmihlepaoifiaa

/-
  CONTRACT: told (the program's iterator over parts).
-/
namespace Go.Proofs.Ytlmihlepaoifiaa
open Go.RowKit Go.Shelf
attribute [local go_sem] Oper.semAt_some

theorem Rest.back {W W' : World} {B B' : Nat} {v : Value} {l : List UInt8} (h : Rest W' B v l) (hb : Below B' W W') (hB : B ≤ B') : Rest W B v l := by
  obtain ⟨A, c, e, hs, h1, h2⟩ := h
  refine ⟨A, c, e, fun hl => ?_, h1, h2⟩
  obtain ⟨a, ea, hlt, hc⟩ := hs hl
  exact ⟨a, ea, hlt, fun j x hx => (hb.cell (p := a.add j) (by rw [add_block]; omega)).symm.trans (hc j x hx)⟩
/-- a part, and what stands behind it -/
structure Tl (w : World) (B : Nat) where
  p : PartP
  t : List UInt8
  r : Value
  ok : Rest w B r t
/-- a slice that reads as these kinds -/
def SlK (W : World) (B : Nat) (A : Option Addr) (l : List Bool) : Prop :=
  l ≠ [] → ∃ a, A = some a ∧ a.block < B ∧ ∀ (j : Nat) (x : Bool), l[j]? = some x → W.cell? (a.add j) = some (.bool x)
theorem SlK.next {W W' : World} {B : Nat} {A : Option Addr} {l : List Bool} (h : SlK W B A l) {B' : Nat} (hb : Below B' W W') (hB : B ≤ B') : SlK W' B A l := fun hl => by
  obtain ⟨a, e, hlt, hc⟩ := h hl
  exact ⟨a, e, hlt, fun j x hx => (hb.cell (p := a.add j) (by rw [add_block]; omega)).trans (hc j x hx)⟩

end Go.Proofs.Ytlmihlepaoifiaa

/-
  CONTRACT: Read (the program's).
-/
namespace Go.Proofs.Ytlmihlepaoifiaa
open Go.RowKit Go.Shelf
attribute [local go_sem] Oper.semAt_some

end Go.Proofs.Ytlmihlepaoifiaa
