/-
  CONTRACT: what adds a span to a set (adderTo's value).
-/
import Derived.RangeFuncBox
import Derived.OwnWalk
import Derived.StillTailTactics
import Derived.Test.YtlmihlepaoifiaaGreatJSSet
namespace Go.Proofs.YtlmihlepaoifiaaGreat
open Go.RowKit

theorem info92 : (Tryz.prog.info? 68).map (fun i => (i.zero, i.size, i.bytes)) = some (some (.agg #[.int .i64 0, .int .i64 0]), 2, 16) := by kernel_rfl
def cellsS (s : Sp) : List Value := [.int .i64 s.1, .int .i64 s.2]
theorem cellsS_one (s : Sp) : ∀ u ∈ cellsS s, u.oneCell' = true := by
  intro u hu
  simp [cellsS] at hu
  rcases hu with rfl | rfl <;> rfl
/-- a slice of spans in blocks from B on, which the call has to itself -/
def OwnS (W : World) (B : Nat) (v : Value) (l : List Sp) : Prop := W.ownsRow B 68 2 v l.length (l.flatMap cellsS)
theorem flatS {l : List Sp} {j i : Nat} (hi : i < 2) : (l.flatMap cellsS)[j * 2 + i]? = l[j]?.bind fun x => (cellsS x)[i]? := by
  induction l generalizing j with
  | nil => simp
  | cons x l ih =>
    cases j with
    | zero =>
      rw [List.flatMap_cons, List.getElem?_append_left (by show 0 * 2 + i < 2; omega)]
      simp
    | succ j =>
      have e : (j + 1) * 2 + i = 2 + (j * 2 + i) := by omega
      rw [List.flatMap_cons, e, List.getElem?_append_right (by show 2 ≤ _; omega), show (cellsS x).length = 2 from rfl, Nat.add_sub_cancel_left, ih]
      simp
theorem flatS_len (l : List Sp) : (l.flatMap cellsS).length = l.length * 2 := by
  induction l with
  | nil => rfl
  | cons x l ih => rw [List.flatMap_cons, List.length_append, ih, List.length_cons]; show 2 + _ = _; omega
theorem OwnS.sls {W : World} {B : Nat} {v : Value} {l : List Sp} (h : OwnS W B v l) : ∃ A c, v = .slice A l.length c ∧ SlS W W.heap.size A l ∧ l.length ≤ c ∧ c ≤ maxLen := by
  rcases h.2 with ⟨rfl, h0⟩ | ⟨g, cap, cur, rfl, _, hgb, h1, h2, _⟩
  · exact ⟨none, 0, by rw [h0], fun hl => absurd (List.length_eq_zero_iff.1 h0) hl, by omega, Nat.zero_le _⟩
  · refine ⟨_, _, rfl, fun _ => ⟨g, 0, rfl, (Array.getElem?_eq_some_iff.1 hgb).1, fun j p hp => ?_⟩, h1, h2⟩
    have hr : W.ownsRow B 68 2 (.slice (some ⟨g, 0, none⟩) l.length cap) l.length (l.flatMap cellsS) := h
    have hj : j < l.length := (List.getElem?_eq_some_iff.1 hp).1
    have hc : ∀ i, i < 2 → W.cell? ⟨g, j * 2 + i, none⟩ = (cellsS p)[i]? := fun i hi => by
      rw [hr.cellAt (j * 2 + i) (by omega), flatS hi, hp]; rfl
    rw [Nat.zero_add]
    exact ⟨hc 0 (by omega), hc 1 (by omega)⟩
theorem ownS_nil (W : World) (B : Nat) : OwnS W B (.slice none 0 0) [] := World.ownsRow_nil _ _ _ _
theorem ownS_snoc {W : World} {B : Nat} {v : Value} {l : List Sp} {s : Sp} (h : W.ownsRow B 68 2 v (l.length + 1) (l.flatMap cellsS ++ cellsS s)) : OwnS W B v (l ++ [s]) := by
  show World.ownsRow _ _ _ _ _ _ _
  simpa using h
theorem OwnS.kept {W W' : World} {B : Nat} {v : Value} {l : List Sp} {row : Option Nat} (h : OwnS W B v l) (hg : W.grownBy W' row) (hr : ∀ r, row = some r → ∃ o : Obj, W.heap[r]? = some o ∧ o.isCells = false) : OwnS W' B v l := by
  refine World.ownsRow.kept (row := row) h hg ?_
  rcases h.2 with ⟨rfl, _⟩ | ⟨g, cap, cur, rfl, _, hgb, _⟩
  · exact .inl rfl
  · refine .inr fun e => ?_
    obtain ⟨_, ho, hc⟩ := hr g (by rw [← e]; rfl)
    rw [hgb] at ho
    cases ho
    simp [Obj.isCells] at hc
theorem OwnS.alloc {W : World} {B : Nat} {v : Value} {l : List Sp} (h : OwnS W B v l) (o : Obj) : OwnS (W.alloc o) B v l := World.ownsRow.alloc h o
theorem OwnS.next {W W' : World} {B : Nat} {v : Value} {l : List Sp} (h : OwnS W B v l) (hb : Below W.heap.size W W') : OwnS W' B v l := h.kept (row := none) ⟨hb.os, hb.tape, hb.output, hb.size, fun k hk _ => hb.block k hk⟩ (fun r e => by cases e)

/-- a step that turns a box and a row alone -/
structure Adds (W W' : World) (Bs : Nat) (r : Option Nat) : Prop where
  os : W'.os = W.os
  tape : W'.tape = W.tape
  output : W'.output = W.output
  size : W.heap.size ≤ W'.heap.size
  block : ∀ k, k < W.heap.size → k ≠ Bs → some k ≠ r → W'.heap[k]? = W.heap[k]?
theorem cell_litS (W : World) (cs : Array Value) (t : TypeId) (j : Nat) (u : Value) (h : cs.toList[j]? = some u) : (W.alloc (.cells cs t)).cell? ((⟨W.heap.size, 0, none⟩ : Addr).add j) = some u := cell_lit W cs t j u h

theorem Adds.append {W W5 w4 : World} {Bs : Nat} {r : Option Nat} {o : Obj} (h : Adds W W5 Bs r) (hs : W5.heap.size = W.heap.size + 1) (hg : (W5.alloc o).drew.grownBy w4 r) (u : Value) : Adds W (w4.setCell ⟨Bs, 0, none⟩ u) Bs r :=
  ⟨hg.os.trans h.os, hg.tape.trans h.tape, hg.output.trans h.output, by
    have h1 : (W5.alloc o).heap.size ≤ w4.heap.size := hg.size
    have h2 := (KeepsWalks.setCell w4 ⟨Bs, 0, none⟩ u).size
    rw [World.size_alloc] at h1
    omega, fun k hk h1 h2 => by
    refine (Below.heap_setCell w4 ⟨Bs, 0, none⟩ u k h1).trans ?_
    refine (hg.block k (by show k < (W5.alloc o).heap.size; rw [World.size_alloc]; omega) h2).trans ?_
    exact (Below.heap_alloc W5 o k (by omega)).trans (h.block k hk h1 h2)⟩
theorem OwnS.row {W : World} {B n : Nat} {v : Value} {l : List Sp} (h : OwnS W B v l) (hn : l.length = n) : W.ownsRow B 68 2 v n (l.flatMap cellsS) := by
  subst hn; exact h
theorem ownS_snoc' {W : World} {B n : Nat} {v : Value} {l : List Sp} {s : Sp} (hn : l.length = n) (h : W.ownsRow B 68 2 v (n + 1) (l.flatMap cellsS ++ cellsS s)) : OwnS W B v (l ++ [s]) := by
  subst hn; exact ownS_snoc h
theorem Adds.store {W W5 w4 : World} {Bs : Nat} {r : Option Nat} (h : Adds W W5 Bs r) (hs : W5.heap.size = W.heap.size + 1) (hg : W5.drew.grownBy w4 r) : Adds W w4 Bs r :=
  ⟨hg.os.trans h.os, hg.tape.trans h.tape, hg.output.trans h.output, by
    have h1 : W5.heap.size ≤ w4.heap.size := hg.size
    omega, fun k hk h1 h2 => (hg.block k (by show k < W5.heap.size; omega) h2).trans (h.block k hk h1 h2)⟩
theorem flatS_set {r : List Sp} {p : Sp} (u : Int) : ((r ++ [p]).flatMap cellsS).set (r.length * 2 + 1) (.int .i64 u) = (r ++ [(p.1, u)]).flatMap cellsS := by
  rw [List.flatMap_append, List.flatMap_append, List.set_append, if_neg (by rw [flatS_len]; omega), flatS_len, Nat.add_sub_cancel_left]
  rfl
end Go.Proofs.YtlmihlepaoifiaaGreat
