import Derived.Laws.ResultCell
import Derived.Test.YtlmihlepaoifiaaJDSl
import Derived.Test.YtlmihlepaoifiaaJORdRead
import Derived.Test.YtlmihlepaoifiaaJSTold
import Derived.Shelf.RegionOpen
/-
  CONTRACTS over datoms: placesOf, has, part.
-/
namespace Go.Proofs.Ytlmihlepaoifiaa
open Go.RowKit

end Go.Proofs.Ytlmihlepaoifiaa

/-
  CONTRACTS over datoms: told (the iterator over a datom's parts), compareParts.
-/
namespace Go.Proofs.Ytlmihlepaoifiaa
open Go.RowKit Go.Shelf

theorem DatAt.c0 {W : World} {b : Nat} {d : Dat} (h : DatAt W b d) : W.cell? ⟨b, 0, none⟩ = some (.int .i64 d.e) := h.cell 0
theorem DatAt.c1 {W : World} {b : Nat} {d : Dat} (h : DatAt W b d) : W.cell? ⟨b, 1, none⟩ = some (.int .i64 d.a) := h.cell 1
theorem DatAt.c2 {W : World} {b : Nat} {d : Dat} (h : DatAt W b d) : W.cell? ⟨b, 2, none⟩ = some (.int .i64 d.k) := h.cell 2
theorem DatAt.c3 {W : World} {b : Nat} {d : Dat} (h : DatAt W b d) : W.cell? ⟨b, 3, none⟩ = some (.int .i64 d.m) := h.cell 3
theorem DatAt.c4 {W : World} {b : Nat} {d : Dat} (h : DatAt W b d) : W.cell? ⟨b, 4, none⟩ = some (.string d.s) := h.cell 4
theorem DatAt.c5 {W : World} {b : Nat} {d : Dat} (h : DatAt W b d) : W.cell? ⟨b, 5, none⟩ = some (.int .i64 d.t) := h.cell 5
theorem DatAt.c6 {W : World} {b : Nat} {d : Dat} (h : DatAt W b d) : W.cell? ⟨b, 6, none⟩ = some (.bool d.add) := h.cell 6
theorem DatAt.c7 {W : World} {b : Nat} {d : Dat} (h : DatAt W b d) : W.cell? ⟨b, 7, none⟩ = some (.int .i64 d.fr) := h.cell 7
theorem DatAt.c8 {W : World} {b : Nat} {d : Dat} (h : DatAt W b d) : W.cell? ⟨b, 8, none⟩ = some (.int .i64 d.til) := h.cell 8
/-- What lay below n₀, and in two blocks, lies. -/
structure Keep2 (n₀ Ba Bd : Nat) (A B : World) : Prop where
  low : Below n₀ A B
  b1 : B.heap[Ba]? = A.heap[Ba]?
  b2 : B.heap[Bd]? = A.heap[Bd]?
theorem Keep2.refl (n₀ Ba Bd : Nat) (A : World) : Keep2 n₀ Ba Bd A A := ⟨Below.refl _ _, rfl, rfl⟩
theorem Keep2.trans {n₀ Ba Bd : Nat} {A B C : World} (h : Keep2 n₀ Ba Bd A B) (k : Keep2 n₀ Ba Bd B C) : Keep2 n₀ Ba Bd A C := ⟨h.low.trans k.low, k.b1.trans h.b1, k.b2.trans h.b2⟩
end Go.Proofs.Ytlmihlepaoifiaa

/-
  CONTRACT over datoms: Compare.
-/
namespace Go.Proofs.Ytlmihlepaoifiaa
open Go.RowKit Go.Shelf
attribute [local go_sem] Oper.semAt_some

theorem DatAt.kept {W W' : World} {b : Nat} {d : Dat} {row : Option Nat} (h : DatAt W b d) (hg : W.grownBy W' row) (hr : some b ≠ row) : DatAt W' b d := (hg.block b h.lt hr).trans h
end Go.Proofs.Ytlmihlepaoifiaa
