/-
  PLAIN FACTS beside OrderEnds.
-/
import Derived.Test.YtdlkblnnnmgijaaOBytes
namespace Go.Proofs.Ytdlkblnnnmgijaa
open Go.RowKit Go.Shelf

theorem SlB.more {W : World} {B B' : Nat} {A : Option Addr} {l : List UInt8} (h : SlB W B A l) (hB : B ≤ B') : SlB W B' A l := fun hl => by
  obtain ⟨a, e, hlt, hc⟩ := h hl
  exact ⟨a, e, by omega, hc⟩
theorem SlB.drewN {W : World} {B : Nat} {A : Option Addr} {l : List UInt8} (h : SlB W B A l) (n : Nat) : SlB (W.drewN n) B A l := h
theorem ownB_form {W : World} {B : Nat} {v : Value} {l : List UInt8} (h : OwnB W B v l) : ∃ A c, v = .slice A l.length c := by
  rcases h.2 with ⟨rfl, h0⟩ | ⟨g, cap, cur, rfl, _⟩
  · exact ⟨none, 0, by rw [h0]⟩
  · exact ⟨_, _, rfl⟩
theorem pre_take {b x : List UInt8} : b <+: x ↔ b.length ≤ x.length ∧ x.take b.length = b := by
  constructor
  · intro h; exact ⟨h.length_le, (List.prefix_iff_eq_take.1 h).symm⟩
  · intro ⟨_, h⟩; rw [← h]; exact List.take_prefix _ _
theorem endF_len : ∀ {b e : List UInt8}, endF b = some e → e.length ≤ b.length
  | [], e, h => by cases h
  | c :: r, e, h => by
    rw [endF] at h
    cases hr : endF r with
    | some e' =>
      rw [hr] at h
      injection h with h
      have := endF_len hr
      rw [← h]; simp; omega
    | none =>
      rw [hr] at h
      simp only at h
      split at h
      · cases h
      · injection h with h
        rw [← h]; simp


end Go.Proofs.Ytdlkblnnnmgijaa
