/-
  CONTRACTS over parts: great; Key (the program's).
-/
import Derived.Deep.QuietTactic
import Derived.BigQuiet
import Derived.Deep.Draws
import Derived.Test.YtlmihlepaoifiaaJOEnd
namespace Go.Proofs.Ytlmihlepaoifiaa
open Go.RowKit Go.Shelf

/-- one part's cells -/
structure PartAt (W : World) (b o : Nat) (p : PartP) : Prop where
  c0 : W.cell? ⟨b, o, none⟩ = some (.bool p.v)
  c1 : W.cell? ⟨b, o + 1, none⟩ = some (.int .i64 p.n)
  c2 : W.cell? ⟨b, o + 2, none⟩ = some (.int .i64 p.k)
  c3 : W.cell? ⟨b, o + 2 + 1, none⟩ = some (.int .i64 p.m)
  c4 : W.cell? ⟨b, o + 2 + 2, none⟩ = some (.string p.s)
/-- a slice that reads as these parts, in blocks below B -/
def SlP (W : World) (B : Nat) (A : Option Addr) (l : List PartP) : Prop :=
  l ≠ [] → ∃ b o, A = some ⟨b, o, none⟩ ∧ b < B ∧ ∀ (j : Nat) (p : PartP), l[j]? = some p → PartAt W b (o + j * 5) p
theorem PartAt.next {W W' : World} {B b o : Nat} {p : PartP} (h : PartAt W b o p) (hb : Below B W W') (hB : b < B) : PartAt W' b o p :=
  ⟨(hb.cell (p := ⟨b, o, none⟩) hB).trans h.c0, (hb.cell (p := ⟨b, o + 1, none⟩) hB).trans h.c1, (hb.cell (p := ⟨b, o + 2, none⟩) hB).trans h.c2, (hb.cell (p := ⟨b, o + 2 + 1, none⟩) hB).trans h.c3, (hb.cell (p := ⟨b, o + 2 + 2, none⟩) hB).trans h.c4⟩
theorem SlP.next {W W' : World} {B : Nat} {A : Option Addr} {l : List PartP} (h : SlP W B A l) {B' : Nat} (hb : Below B' W W') (hB : B ≤ B') : SlP W' B A l := fun hl => by
  obtain ⟨b, o, e, hlt, hc⟩ := h hl
  exact ⟨b, o, e, hlt, fun j p hp => (hc j p hp).next hb (by omega)⟩
theorem SlP.more {W : World} {B B' : Nat} {A : Option Addr} {l : List PartP} (h : SlP W B A l) (hB : B ≤ B') : SlP W B' A l := fun hl => by
  obtain ⟨b, o, e, hlt, hc⟩ := h hl
  exact ⟨b, o, e, by omega, hc⟩
theorem SlP.drewN {W : World} {B : Nat} {A : Option Addr} {l : List PartP} (h : SlP W B A l) (n : Nat) : SlP (W.drewN n) B A l := fun hl => by
  obtain ⟨b, o, e, hlt, hc⟩ := h hl
  exact ⟨b, o, e, hlt, fun j p hp => ⟨(hc j p hp).c0, (hc j p hp).c1, (hc j p hp).c2, (hc j p hp).c3, (hc j p hp).c4⟩⟩
theorem SlP.at_ {W : World} {B : Nat} {A : Option Addr} {l : List PartP} (h : SlP W B A l) {j : Nat} (hj : j < l.length) : ∃ b o, A = some ⟨b, o, none⟩ ∧ b < B ∧ PartAt W b (o + j * 5) l[j] := by
  obtain ⟨b, o, e, hlt, hc⟩ := h (by intro e; rw [e] at hj; simp at hj)
  exact ⟨b, o, e, hlt, hc j _ (List.getElem?_eq_getElem hj)⟩

end Go.Proofs.Ytlmihlepaoifiaa
