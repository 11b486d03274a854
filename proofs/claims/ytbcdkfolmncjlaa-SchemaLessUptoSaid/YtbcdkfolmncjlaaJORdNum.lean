import Derived.Deep.QuietTactic
import Derived.BigQuiet
import Derived.Deep.Draws
import Derived.Test.YtbcdkfolmncjlaaJOEnd
import Derived.Laws.CopyRow
import Derived.Laws.CopyOwn
import Derived.Laws.IdiomCopy
import Derived.Lib.SlBuf
import Derived.Test.YtbcdkfolmncjlaaJLeaf
/-
  PLAIN FACTS beside OrderEnds.
-/
namespace Go.Proofs.Ytbcdkfolmncjlaa
open Go.RowKit Go.Shelf

theorem SlB.more {W : World} {B B' : Nat} {A : Option Addr} {l : List UInt8} (h : SlB W B A l) (hB : B ≤ B') : SlB W B' A l := fun hl => by
  obtain ⟨a, e, hlt, hc⟩ := h hl
  exact ⟨a, e, by omega, hc⟩
theorem SlB.drewN {W : World} {B : Nat} {A : Option Addr} {l : List UInt8} (h : SlB W B A l) (n : Nat) : SlB (W.drewN n) B A l := h
theorem ownB_form {W : World} {B : Nat} {v : Value} {l : List UInt8} (h : OwnB W B v l) : ∃ A c, v = .slice A l.length c := by
  rcases h.2 with ⟨rfl, h0⟩ | ⟨g, cap, cur, rfl, _⟩
  · exact ⟨none, 0, by rw [h0]⟩
  · exact ⟨_, _, rfl⟩
theorem pre_take {b x : List UInt8} : b <+: x ↔ b.length ≤ x.length ∧ x.take b.length = b := by
  constructor
  · intro h; exact ⟨h.length_le, (List.prefix_iff_eq_take.1 h).symm⟩
  · intro ⟨_, h⟩; rw [← h]; exact List.take_prefix _ _
theorem endF_len : ∀ {b e : List UInt8}, endF b = some e → e.length ≤ b.length
  | [], e, h => by cases h
  | c :: r, e, h => by
    rw [endF] at h
    cases hr : endF r with
    | some e' =>
      rw [hr] at h
      injection h with h
      have := endF_len hr
      rw [← h]; simp; omega
    | none =>
      rw [hr] at h
      simp only at h
      split at h
      · cases h
      · injection h with h
        rw [← h]; simp


end Go.Proofs.Ytbcdkfolmncjlaa

/-
  CONTRACTS: readNumber, readByte (the program's), number (the document's).
-/
namespace Go.Proofs.Ytbcdkfolmncjlaa
open Go.RowKit Go.Shelf

theorem SlB.drop {W : World} {B : Nat} {a : Addr} {l : List UInt8} (h : SlB W B (some a) l) (k : Nat) : SlB W B (some (a.add k)) (l.drop k) := fun hl => by
  have h0 : l ≠ [] := fun e => hl (by rw [e]; simp)
  obtain ⟨a', e, hlt, hc⟩ := h h0
  injection e with e
  subst e
  refine ⟨_, rfl, by rw [add_block]; exact hlt, fun j x hx => ?_⟩
  rw [List.getElem?_drop] at hx
  rw [Addr.add_add]
  exact hc _ x hx

theorem or_step (V c : Nat) (hV : V < 72057594037927936) (hc : c < 256) : bits .or .u64 ((V : Int) * 256) (IntKind.u64.wrap (c : Int)) = ((V * 256 + c : Nat) : Int) := by
  have e1 : ((V : Int) * 256) = ((V * 256 : Nat) : Int) := by omega
  have e2 : IntKind.u64.wrap (c : Int) = (c : Int) := by rw [IntKind.wrap_u64]; omega
  rw [e1, e2, u64_or_nat _ _ (by omega) (by omega), shl_or V c hc]
theorem turnedR (V : Nat) (hV : V < 18446744073709551616) : IntKind.i64.wrap (bits .xor .u64 (V : Int) 9223372036854775808) = (V : Int) - 9223372036854775808 := by
  rw [show (9223372036854775808 : Int) = ((9223372036854775808 : Nat) : Int) from rfl, u64_xor_nat _ _ hV (by decide), xor63 _ hV, IntKind.wrap_i64]
  split <;> omega

/-- a slice that reads as these bytes -/
def Rest (W : World) (B : Nat) (v : Value) (l : List UInt8) : Prop := ∃ A c, v = .slice A l.length c ∧ SlB W B A l ∧ l.length ≤ c ∧ c ≤ maxLen
theorem Rest.next {W W' : World} {B B' : Nat} {v : Value} {l : List UInt8} (h : Rest W B v l) (hb : Below B' W W') (hB : B ≤ B') : Rest W' B v l := by
  obtain ⟨A, c, e, hs, h1, h2⟩ := h
  exact ⟨A, c, e, hs.next hb hB, h1, h2⟩
theorem SlB.cut {W : World} {B : Nat} {a : Addr} {l : List UInt8} (h : SlB W B (some a) l) {c : Nat} (hlc : l.length ≤ c) (k : Nat) : SlB W B (if c = k then some a else some ⟨a.block, a.off + k, none⟩) (l.drop k) := fun hl => by
  have hk : k < l.length := by
    refine Nat.lt_of_not_le fun e => hl ?_
    exact List.drop_of_length_le e
  rw [if_neg (by omega)]
  obtain ⟨a', e, hlt, hc⟩ := h.drop k hl
  injection e with e
  subst e
  have h0 := hc 0 _ (by rw [List.getElem?_drop, Nat.add_zero]; exact List.getElem?_eq_getElem hk)
  have he : (⟨a.block, a.off + k, none⟩ : Addr) = a.add k := by
    have hsp := World.cell?_spot h0
    obtain ⟨b, o, sp⟩ := a
    cases sp with
    | none => simp [Addr.add]
    | some _ =>
      by_cases hk0 : k = 0
      · subst hk0
        simp [Addr.add] at hsp
      · simp [Addr.add, hk0]
  rw [he]
  exact ⟨_, rfl, hlt, hc⟩
theorem rest_cut {W : World} {B : Nat} {a : Addr} {l : List UInt8} (h : SlB W B (some a) l) {c : Nat} (hlc : l.length ≤ c) (hc : c ≤ maxLen) (k : Nat) : Rest W B (.slice (if c = k then some a else some ⟨a.block, a.off + k, none⟩) (l.length - k) (c - k)) (l.drop k) :=
  ⟨_, c - k, by rw [List.length_drop], h.cut hlc k, by rw [List.length_drop]; omega, by omega⟩
theorem rest_at {W : World} {B : Nat} {a : Addr} {l : List UInt8} (h : SlB W B (some a) l) {c : Nat} (hlc : l.length ≤ c) (hc : c ≤ maxLen) (k : Nat) (hk : c = k) : Rest W B (.slice (some a) (l.length - k) 0) (l.drop k) := by
  have := rest_cut h hlc hc k
  rwa [if_pos hk, show c - k = 0 by omega] at this
theorem rest_on {W : World} {B : Nat} {a : Addr} {l : List UInt8} (h : SlB W B (some a) l) {c : Nat} (hlc : l.length ≤ c) (hc : c ≤ maxLen) (k : Nat) (hk : ¬ c = k) : Rest W B (.slice (some ⟨a.block, a.off + k, none⟩) (l.length - k) (c - k)) (l.drop k) := by
  have := rest_cut h hlc hc k
  rwa [if_neg hk] at this
/-- What readNumber answers. -/
def NumRd (W : World) (B : Nat) (l : List UInt8) (e : Ending) (w' : World) : Prop :=
  (8 ≤ l.length ∧ (∃ r, e = .returned (.tuple #[.int .i64 (numR l), r, .bool true]) ∧ Rest w' B r (l.drop 8)) ∧ Below W.heap.size W w') ∨
  (l.length < 8 ∧ e = .returned (.tuple #[.int .i64 0, .slice none 0 0, .bool false]) ∧ Below W.heap.size W w')

theorem numRd_yes {W w' : World} {B : Nat} {l : List UInt8} {n : Int} {r : Value} (h8 : 8 ≤ l.length) (hn : numR l = n) (hr : Rest w' B r (l.drop 8)) (hb : Below W.heap.size W w') : NumRd W B l (.returned (.tuple #[.int .i64 n, r, .bool true])) w' := .inl ⟨h8, ⟨r, by rw [hn], hr⟩, hb⟩
theorem numRd_no {W w' : World} {B : Nat} {l : List UInt8} (h8 : l.length < 8) (hb : Below W.heap.size W w') : NumRd W B l (.returned (.tuple #[.int .i64 0, .slice none 0 0, .bool false])) w' := .inr ⟨h8, rfl, hb⟩

end Go.Proofs.Ytbcdkfolmncjlaa
