/-
  WHAT THE LAW TreeParts WANTS: the two sides of a key; a row's pair at a place (plain).
-/
import Derived.Test.YtohpilamoglhcaaQRange
import Derived.Test.YtohpilamoglhcaaQAliv2
import Derived.Test.YtohpilamoglhcaaQGrow
namespace Go.Proofs.Ytohpilamoglhcaa
open Go.RowKit

theorem low_is {L : List Pr} (hR : Rise L) (k : By) : L.filter (fun q => decide (ordL q.1 k = -1)) = L.take (rankL L k) := by
  obtain ⟨h1, h2⟩ := rise_split hR k
  conv => lhs; rw [← List.take_append_drop (rankL L k) L]
  rw [List.filter_append, filter_all (fun q hq => by simpa using h1 q hq), filter_no (fun q hq => by have := h2 q hq; simp; omega), List.append_nil]
theorem high_is {L : List Pr} (hR : Rise L) (k : By) : fromL k L = L.drop (rankL L k) := by
  obtain ⟨h1, h2⟩ := rise_split hR k
  unfold fromL
  conv => lhs; rw [← List.take_append_drop (rankL L k) L]
  rw [List.filter_append, filter_no (fun q hq => by have := h1 q hq; simp; omega), filter_all (fun q hq => by simpa using h2 q hq), List.nil_append]
theorem flatQ : ∀ (qs : List Q3) (i r : Nat), r < 2 → (qs.flatMap cellsQ)[i * 2 + r]? = (qs[i]?).bind fun q => (cellsQ q)[r]?
  | [], i, r, _ => by simp
  | q :: qs, 0, r, hr => by
    rw [List.flatMap_cons, Nat.zero_mul, Nat.zero_add, List.getElem?_append_left (by simp [cellsQ]; omega)]
    simp
  | q :: qs, i + 1, r, hr => by
    rw [List.flatMap_cons, List.getElem?_append_right (by simp [cellsQ]; omega)]
    have : (i + 1) * 2 + r - (cellsQ q).length = i * 2 + r := by simp [cellsQ]; omega
    rw [this, flatQ qs i r hr]
    simp
theorem OwnQ.at_ {w : World} {B n c : Nat} {A : Option Addr} {qs : List Q3} (h : OwnQ w B (.slice A n c) qs) {i : Nat} {q : Q3} (hq : qs[i]? = some q) : ∃ g, A = some ⟨g, 0, none⟩ ∧ w.cell? ⟨g, i * 2, none⟩ = some q.2.1 ∧ w.cell? ⟨g, i * 2 + 1, none⟩ = some q.2.2 ∧ g < w.heap.size := by
  have hi : i < qs.length := (List.getElem?_eq_some_iff.1 hq).1
  rcases h.row.2 with ⟨e, h0⟩ | ⟨g, cap, cur, e, _, hgb, _⟩
  · omega
  · injection e with e1 e2 e3
    subst e1 e2 e3
    refine ⟨g, rfl, ?_, ?_, (Array.getElem?_eq_some_iff.1 hgb).1⟩
    · have := h.row.cellAt (i * 2 + 0) (by omega)
      rw [flatQ qs i 0 (by decide), hq] at this
      simpa [cellsQ] using this
    · have := h.row.cellAt (i * 2 + 1) (by omega)
      rw [flatQ qs i 1 (by decide), hq] at this
      simpa [cellsQ] using this
theorem BV.at_ {w : World} {B : Nat} {v : Value} {l : By} (h : BV w B v l) : ∃ A c, v = .slice A l.length c ∧ SlB w w.heap.size A l := by
  obtain ⟨A, c, e, h⟩ := h
  subst e
  exact ⟨A, c, rfl, (SlB.of_own h).2⟩
/-- a pair in a row, as a load of it gives it -/
theorem OwnQ.pair {w : World} {B n c : Nat} {A : Option Addr} {qs : List Q3} {L : List Pr} (h : OwnQ w B (.slice A n c) qs) (hm : qs.map (·.1) = L) {i : Nat} {p : Pr} (hp : L[i]? = some p) :
    ∃ g A1 c1 A2 c2, A = some ⟨g, 0, none⟩ ∧ g < w.heap.size ∧ w.cell? ⟨g, i * 2, none⟩ = some (.slice A1 p.1.length c1) ∧ w.cell? ⟨g, i * 2 + 1, none⟩ = some (.slice A2 p.2.length c2) ∧ SlB w w.heap.size A1 p.1 ∧ SlB w w.heap.size A2 p.2 := by
  subst hm
  rw [List.getElem?_map] at hp
  obtain ⟨q, hq, rfl⟩ := Option.map_eq_some_iff.1 hp
  obtain ⟨g, e, c1, c2, hg⟩ := h.at_ hq
  obtain ⟨b1, b2⟩ := h.el q (List.mem_of_getElem? hq)
  obtain ⟨A1, k1, e1, s1⟩ := b1.at_
  obtain ⟨A2, k2, e2, s2⟩ := b2.at_
  exact ⟨g, A1, k1, A2, k2, e, hg, by rw [c1, e1], by rw [c2, e2], s1, s2⟩
theorem toldE_self (p : Pr) : toldE p true ⟨p.1.toArray⟩ ⟨p.2.toArray⟩ = true := by unfold toldE; simp
theorem bless_ge {l r : By} (h : 0 ≤ ordL l r) : Op.bytesLess l r = false := by
  cases hb : Op.bytesLess l r with
  | false => rfl
  | true => have := (less_ord l r).1 hb; omega
theorem bless_lt {l r : By} (h : ordL l r = -1) : Op.bytesLess l r = true := by
  cases hb : Op.bytesLess l r with
  | true => rfl
  | false =>
    cases he : (l == r) with
    | false => have := (less_ord l r).2.1 hb he; omega
    | true => have := (less_ord l r).2.2 (eq_of_beq he); omega
end Go.Proofs.Ytohpilamoglhcaa
