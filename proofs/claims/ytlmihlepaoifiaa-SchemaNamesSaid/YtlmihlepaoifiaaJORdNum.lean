import Derived.Deep.QuietTactic
import Derived.BigQuiet
import Derived.Deep.Draws
import Derived.Test.YtlmihlepaoifiaaJOEnd
import Derived.Laws.CopyRow
import Derived.Laws.CopyOwn
import Derived.Laws.IdiomCopy
import Derived.Lib.SlBuf
import Derived.Test.YtlmihlepaoifiaaJOBkPure
/-
  PLAIN FACTS beside OrderEnds.
-/
namespace Go.Proofs.Ytlmihlepaoifiaa
open Go.RowKit Go.Shelf

theorem SlB.more {W : World} {B B' : Nat} {A : Option Addr} {l : List UInt8} (h : SlB W B A l) (hB : B ≤ B') : SlB W B' A l := fun hl => by
  obtain ⟨a, e, hlt, hc⟩ := h hl
  exact ⟨a, e, by omega, hc⟩
theorem SlB.drewN {W : World} {B : Nat} {A : Option Addr} {l : List UInt8} (h : SlB W B A l) (n : Nat) : SlB (W.drewN n) B A l := h
end Go.Proofs.Ytlmihlepaoifiaa

/-
  CONTRACTS: readNumber, readByte (the program's), number (the document's).
-/
namespace Go.Proofs.Ytlmihlepaoifiaa
open Go.RowKit Go.Shelf

theorem SlB.drop {W : World} {B : Nat} {a : Addr} {l : List UInt8} (h : SlB W B (some a) l) (k : Nat) : SlB W B (some (a.add k)) (l.drop k) := fun hl => by
  have h0 : l ≠ [] := fun e => hl (by rw [e]; simp)
  obtain ⟨a', e, hlt, hc⟩ := h h0
  injection e with e
  subst e
  refine ⟨_, rfl, by rw [add_block]; exact hlt, fun j x hx => ?_⟩
  rw [List.getElem?_drop] at hx
  rw [Addr.add_add]
  exact hc _ x hx

/-- a slice that reads as these bytes -/
def Rest (W : World) (B : Nat) (v : Value) (l : List UInt8) : Prop := ∃ A c, v = .slice A l.length c ∧ SlB W B A l ∧ l.length ≤ c ∧ c ≤ maxLen
theorem Rest.next {W W' : World} {B B' : Nat} {v : Value} {l : List UInt8} (h : Rest W B v l) (hb : Below B' W W') (hB : B ≤ B') : Rest W' B v l := by
  obtain ⟨A, c, e, hs, h1, h2⟩ := h
  exact ⟨A, c, e, hs.next hb hB, h1, h2⟩
theorem SlB.cut {W : World} {B : Nat} {a : Addr} {l : List UInt8} (h : SlB W B (some a) l) {c : Nat} (hlc : l.length ≤ c) (k : Nat) : SlB W B (if c = k then some a else some ⟨a.block, a.off + k, none⟩) (l.drop k) := fun hl => by
  have hk : k < l.length := by
    refine Nat.lt_of_not_le fun e => hl ?_
    exact List.drop_of_length_le e
  rw [if_neg (by omega)]
  obtain ⟨a', e, hlt, hc⟩ := h.drop k hl
  injection e with e
  subst e
  have h0 := hc 0 _ (by rw [List.getElem?_drop, Nat.add_zero]; exact List.getElem?_eq_getElem hk)
  have he : (⟨a.block, a.off + k, none⟩ : Addr) = a.add k := by
    have hsp := World.cell?_spot h0
    obtain ⟨b, o, sp⟩ := a
    cases sp with
    | none => simp [Addr.add]
    | some _ =>
      by_cases hk0 : k = 0
      · subst hk0
        simp [Addr.add] at hsp
      · simp [Addr.add, hk0]
  rw [he]
  exact ⟨_, rfl, hlt, hc⟩
end Go.Proofs.Ytlmihlepaoifiaa
