import Derived.Deep.QuietTactic
import Derived.BigQuiet
import Derived.Deep.Draws
import Derived.Test.YtlmihlepaoifiaaGreatJOEnd
import Derived.Laws.CopyRow
import Derived.Laws.CopyOwn
import Derived.Laws.IdiomCopy
import Derived.Lib.SlBuf
import Derived.Test.YtlmihlepaoifiaaGreatJLeaf
/-
  CONTRACTS: Bytes (how bytes stand, the document's); alive (the chapter's first examples).
-/
namespace Go.Proofs.YtlmihlepaoifiaaGreat
open Go.RowKit Go.Shelf

theorem below_dn {B : Nat} {a w : World} (h : Below B a w) (n : Nat) : Below B a (w.drewN n) := ⟨h.os, h.tape, h.output, h.size, h.block⟩
end Go.Proofs.YtlmihlepaoifiaaGreat

/-
  CONTRACTS over parts: great; Key (the program's).
-/
namespace Go.Proofs.YtlmihlepaoifiaaGreat
open Go.RowKit Go.Shelf

/-- one part's cells -/
structure PartAt (W : World) (b o : Nat) (p : PartP) : Prop where
  c0 : W.cell? ⟨b, o, none⟩ = some (.bool p.v)
  c1 : W.cell? ⟨b, o + 1, none⟩ = some (.int .i64 p.n)
  c2 : W.cell? ⟨b, o + 2, none⟩ = some (.int .i64 p.k)
  c3 : W.cell? ⟨b, o + 2 + 1, none⟩ = some (.int .i64 p.m)
  c4 : W.cell? ⟨b, o + 2 + 2, none⟩ = some (.string p.s)
/-- a slice that reads as these parts, in blocks below B -/
def SlP (W : World) (B : Nat) (A : Option Addr) (l : List PartP) : Prop :=
  l ≠ [] → ∃ b o, A = some ⟨b, o, none⟩ ∧ b < B ∧ ∀ (j : Nat) (p : PartP), l[j]? = some p → PartAt W b (o + j * 5) p
theorem PartAt.next {W W' : World} {B b o : Nat} {p : PartP} (h : PartAt W b o p) (hb : Below B W W') (hB : b < B) : PartAt W' b o p :=
  ⟨(hb.cell (p := ⟨b, o, none⟩) hB).trans h.c0, (hb.cell (p := ⟨b, o + 1, none⟩) hB).trans h.c1, (hb.cell (p := ⟨b, o + 2, none⟩) hB).trans h.c2, (hb.cell (p := ⟨b, o + 2 + 1, none⟩) hB).trans h.c3, (hb.cell (p := ⟨b, o + 2 + 2, none⟩) hB).trans h.c4⟩
theorem SlP.next {W W' : World} {B : Nat} {A : Option Addr} {l : List PartP} (h : SlP W B A l) {B' : Nat} (hb : Below B' W W') (hB : B ≤ B') : SlP W' B A l := fun hl => by
  obtain ⟨b, o, e, hlt, hc⟩ := h hl
  exact ⟨b, o, e, hlt, fun j p hp => (hc j p hp).next hb (by omega)⟩
theorem SlP.more {W : World} {B B' : Nat} {A : Option Addr} {l : List PartP} (h : SlP W B A l) (hB : B ≤ B') : SlP W B' A l := fun hl => by
  obtain ⟨b, o, e, hlt, hc⟩ := h hl
  exact ⟨b, o, e, by omega, hc⟩
theorem SlP.drewN {W : World} {B : Nat} {A : Option Addr} {l : List PartP} (h : SlP W B A l) (n : Nat) : SlP (W.drewN n) B A l := fun hl => by
  obtain ⟨b, o, e, hlt, hc⟩ := h hl
  exact ⟨b, o, e, hlt, fun j p hp => ⟨(hc j p hp).c0, (hc j p hp).c1, (hc j p hp).c2, (hc j p hp).c3, (hc j p hp).c4⟩⟩
theorem SlP.at_ {W : World} {B : Nat} {A : Option Addr} {l : List PartP} (h : SlP W B A l) {j : Nat} (hj : j < l.length) : ∃ b o, A = some ⟨b, o, none⟩ ∧ b < B ∧ PartAt W b (o + j * 5) l[j] := by
  obtain ⟨b, o, e, hlt, hc⟩ := h (by intro e; rw [e] at hj; simp at hj)
  exact ⟨b, o, e, hlt, hc j _ (List.getElem?_eq_getElem hj)⟩

end Go.Proofs.YtlmihlepaoifiaaGreat

/-
  PLAIN FACTS beside OrderEnds.
-/
namespace Go.Proofs.YtlmihlepaoifiaaGreat
open Go.RowKit Go.Shelf

theorem SlB.more {W : World} {B B' : Nat} {A : Option Addr} {l : List UInt8} (h : SlB W B A l) (hB : B ≤ B') : SlB W B' A l := fun hl => by
  obtain ⟨a, e, hlt, hc⟩ := h hl
  exact ⟨a, e, by omega, hc⟩
theorem SlB.drewN {W : World} {B : Nat} {A : Option Addr} {l : List UInt8} (h : SlB W B A l) (n : Nat) : SlB (W.drewN n) B A l := h
end Go.Proofs.YtlmihlepaoifiaaGreat

/-
  CONTRACTS: readNumber, readByte (the program's), number (the document's).
-/
namespace Go.Proofs.YtlmihlepaoifiaaGreat
open Go.RowKit Go.Shelf

theorem SlB.drop {W : World} {B : Nat} {a : Addr} {l : List UInt8} (h : SlB W B (some a) l) (k : Nat) : SlB W B (some (a.add k)) (l.drop k) := fun hl => by
  have h0 : l ≠ [] := fun e => hl (by rw [e]; simp)
  obtain ⟨a', e, hlt, hc⟩ := h h0
  injection e with e
  subst e
  refine ⟨_, rfl, by rw [add_block]; exact hlt, fun j x hx => ?_⟩
  rw [List.getElem?_drop] at hx
  rw [Addr.add_add]
  exact hc _ x hx

/-- a slice that reads as these bytes -/
def Rest (W : World) (B : Nat) (v : Value) (l : List UInt8) : Prop := ∃ A c, v = .slice A l.length c ∧ SlB W B A l ∧ l.length ≤ c ∧ c ≤ maxLen
theorem Rest.next {W W' : World} {B B' : Nat} {v : Value} {l : List UInt8} (h : Rest W B v l) (hb : Below B' W W') (hB : B ≤ B') : Rest W' B v l := by
  obtain ⟨A, c, e, hs, h1, h2⟩ := h
  exact ⟨A, c, e, hs.next hb hB, h1, h2⟩
theorem SlB.cut {W : World} {B : Nat} {a : Addr} {l : List UInt8} (h : SlB W B (some a) l) {c : Nat} (hlc : l.length ≤ c) (k : Nat) : SlB W B (if c = k then some a else some ⟨a.block, a.off + k, none⟩) (l.drop k) := fun hl => by
  have hk : k < l.length := by
    refine Nat.lt_of_not_le fun e => hl ?_
    exact List.drop_of_length_le e
  rw [if_neg (by omega)]
  obtain ⟨a', e, hlt, hc⟩ := h.drop k hl
  injection e with e
  subst e
  have h0 := hc 0 _ (by rw [List.getElem?_drop, Nat.add_zero]; exact List.getElem?_eq_getElem hk)
  have he : (⟨a.block, a.off + k, none⟩ : Addr) = a.add k := by
    have hsp := World.cell?_spot h0
    obtain ⟨b, o, sp⟩ := a
    cases sp with
    | none => simp [Addr.add]
    | some _ =>
      by_cases hk0 : k = 0
      · subst hk0
        simp [Addr.add] at hsp
      · simp [Addr.add, hk0]
  rw [he]
  exact ⟨_, rfl, hlt, hc⟩
end Go.Proofs.YtlmihlepaoifiaaGreat
