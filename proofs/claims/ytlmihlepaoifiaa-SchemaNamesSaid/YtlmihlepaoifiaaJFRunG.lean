import Derived.Laws.StructEq
import Derived.Laws.AppendOwnNone
import Derived.Test.YtlmihlepaoifiaaJORdRead
import Derived.Test.YtlmihlepaoifiaaJOParts
import Derived.Test.YtlmihlepaoifiaaJORdNum
import Derived.StillTailTactics
import Derived.Test.YtlmihlepaoifiaaJDComp
import Derived.Test.YtlmihlepaoifiaaJDCmp
import Derived.Test.YtlmihlepaoifiaaJOBkPure
import Derived.WalkMore
import Derived.Test.YtlmihlepaoifiaaJDSortD
import Derived.Test.YtlmihlepaoifiaaJFLastP
import Derived.Test.YtlmihlepaoifiaaJOWords
/-
  THE LAW OrderReads: its walk.
-/
namespace Go.Proofs.Ytlmihlepaoifiaa
open Go.RowKit Go.Shelf

theorem SlK.more {W : World} {B B' : Nat} {A : Option Addr} {l : List Bool} (h : SlK W B A l) (hB : B ≤ B') : SlK W B' A l := fun hl => by
  obtain ⟨a, e, hlt, hc⟩ := h hl
  exact ⟨a, e, by omega, hc⟩
end Go.Proofs.Ytlmihlepaoifiaa

/-
  CONTRACT: the document's Sorted of datoms.
-/
namespace Go.Proofs.Ytlmihlepaoifiaa
open Go.RowKit Go.Shelf

/-- what the comparing regions read -/
def CsD (N ba oa bb ob : Nat) (x y : Dat) (W : World) : Prop := DtAt W ba oa x ∧ DtAt W bb ob y ∧ (ba < N ∧ bb < N) ∧ N ≤ W.heap.size
theorem CsD.next {N ba oa bb ob : Nat} {x y : Dat} {W W' : World} (h : CsD N ba oa bb ob x y W) (hb : Below W.heap.size W W') : CsD N ba oa bb ob x y W' :=
  ⟨h.1.next hb (by have := h.2.2; omega), h.2.1.next hb (by have := h.2.2; omega), h.2.2.1, Nat.le_trans h.2.2.2 hb.size⟩

end Go.Proofs.Ytlmihlepaoifiaa

/-
  CONTRACT over datoms: the datom that has parts.
-/
namespace Go.Proofs.Ytlmihlepaoifiaa
open Go.RowKit

theorem SlP.get {W : World} {b o : Nat} {l : List PartP} (h : ∀ (j : Nat) (p : PartP), l[j]? = some p → PartAt W b (o + j * 5) p) (j : Nat) (hj : j < l.length) : PartAt W b (o + j * 5) ((l[j]?).getD (numP 0)) := by
  have h1 := h j l[j] (List.getElem?_eq_getElem hj)
  rw [List.getElem?_eq_getElem hj]
  exact h1
/-- what the region reads -/
def MS (wz b o pe pa pv : Nat) (xe xa xv x3 x5 x6 : PartP) (W : World) : Prop :=
  (W.cell? ⟨wz, 0, none⟩ = some (.int .i64 (pe : Int)) ∧ W.cell? ⟨wz, 1, none⟩ = some (.int .i64 (pa : Int)) ∧ W.cell? ⟨wz, 2, none⟩ = some (.int .i64 (pv : Int))) ∧
  W.cell? ⟨b, o + pe * 5 + 1, none⟩ = some (.int .i64 xe.n) ∧ W.cell? ⟨b, o + pa * 5 + 1, none⟩ = some (.int .i64 xa.n) ∧
  (W.cell? ⟨b, o + pv * 5 + 2, none⟩ = some (.int .i64 xv.k) ∧ W.cell? ⟨b, o + pv * 5 + 2 + 1, none⟩ = some (.int .i64 xv.m) ∧ W.cell? ⟨b, o + pv * 5 + 2 + 2, none⟩ = some (.string xv.s)) ∧
  W.cell? ⟨b, o + 15 + 1, none⟩ = some (.int .i64 x3.n) ∧ W.cell? ⟨b, o + 25 + 1, none⟩ = some (.int .i64 x5.n) ∧ W.cell? ⟨b, o + 30 + 1, none⟩ = some (.int .i64 x6.n)
theorem MS.next {wz b o pe pa pv B : Nat} {xe xa xv x3 x5 x6 : PartP} {W W' : World} (h : MS wz b o pe pa pv xe xa xv x3 x5 x6 W) (hb : Below B W W') (h1 : wz < B) (h2 : b < B) : MS wz b o pe pa pv xe xa xv x3 x5 x6 W' := by
  obtain ⟨⟨a0, a1, a2⟩, a3, a4, ⟨a5, a6, a7⟩, a8, a9, a10⟩ := h
  have k1 : ∀ j, W'.cell? ⟨wz, j, none⟩ = W.cell? ⟨wz, j, none⟩ := fun j => hb.cell (p := ⟨wz, j, none⟩) h1
  have k2 : ∀ j, W'.cell? ⟨b, j, none⟩ = W.cell? ⟨b, j, none⟩ := fun j => hb.cell (p := ⟨b, j, none⟩) h2
  exact ⟨⟨(k1 _).trans a0, (k1 _).trans a1, (k1 _).trans a2⟩, (k2 _).trans a3, (k2 _).trans a4, ⟨(k2 _).trans a5, (k2 _).trans a6, (k2 _).trans a7⟩, (k2 _).trans a8, (k2 _).trans a9, (k2 _).trans a10⟩
end Go.Proofs.Ytlmihlepaoifiaa

/-
  CONTRACTS: ofDatom, Fold's closures, ContainsFunc over datoms, runs.
-/
namespace Go.Proofs.Ytlmihlepaoifiaa
open Go.RowKit Go.Shelf

end Go.Proofs.Ytlmihlepaoifiaa

/-
  FACTS on stretches of a slice: where each stands; triples compared.
-/
namespace Go.Proofs.Ytlmihlepaoifiaa
open Go.RowKit Go.Shelf

section
variable {κ : Type} [DecidableEq κ] (key : Dat → κ)
end
/-- all places -/
def allN (N : Nat) : List (Fin N) := List.finRange N
theorem allN_take {N i : Nat} (h : i < N) : (allN N).take (i + 1) = (allN N).take i ++ [⟨i, h⟩] := by
  rw [List.take_succ_eq_append_getElem (by unfold allN; simpa using h)]
  unfold allN
  simp
theorem allN_len (N : Nat) : (allN N).length = N := by unfold allN; simp
end Go.Proofs.Ytlmihlepaoifiaa
