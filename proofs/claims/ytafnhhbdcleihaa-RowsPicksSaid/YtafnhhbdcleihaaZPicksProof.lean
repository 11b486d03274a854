/-
  RowsPicks: for every relation, every list of columns and every row (at most 60 columns, 150 rows of at most 60 values; others are let pass by the law itself): Project and Rename answer the relation, or the error, that the document's do; Select asks once for each row, in order, and answers those that are wanted; May and Has say what the document's say; what is answered is new memory, what was handed in stays. What is handed in reads as before. No condition.
-/
import Derived.Test.YtafnhhbdcleihaaZArgs
import Derived.Test.YtafnhhbdcleihaaZPicksL
namespace Go.Proofs.Ytafnhhbdcleihaa
open Go.ChangeShapes Go.WideShapes Go.ChangeAt Go.RowKit Go.Joins Go.Deep

section
variable {H : Type} {enc : TypeId × Value → H}
theorem cellsRel : Try.prog.cellsOf 26 = 2 := by kernel_rfl
theorem cellsCols : Try.prog.cellsOf 22 = 1 := by kernel_rfl
theorem cellsRows : Try.prog.cellsOf 23 = 1 := by kernel_rfl
set_option maxRecDepth 100000 in
theorem rel_cells {W : World} {n : Nat} {cs : List Value} {D : DataW H} {Pl : List MemPlace} (h : DataW.trod enc Try.prog W 0 (fun _ => true) true n 26 cs = some (D, Pl)) :
    ∃ (A : Option Addr) (c : Nat) (l : List ByteArray) (A' : Option Addr) (c' : Nat) (R : List Rw), cs = [.slice A l.length c, .slice A' R.length c'] ∧ SlC W W.heap.size A l ∧ l.length ≤ c ∧ (A = none → l.length = 0 ∧ c = 0) ∧ SlR W W.heap.size A' R := by
  obtain ⟨xs, n1, _, hx, hlen, hxl, hf⟩ := DataW.trod_struct Try.underlying26 h
  rw [cellsRel] at hlen
  match cs, hlen with
  | [c0, c1], _ =>
    match xs, hxl with
    | [x0, x1], _ =>
      have h0 : DataW.trod enc Try.prog W 0 (fun _ => true) true n1 22 ((([c0, c1] : List Value).drop 0).take (Try.prog.cellsOf 22)) = some x0 := hf 0 _ rfl
      have h1 : DataW.trod enc Try.prog W 0 (fun _ => true) true n1 23 ((([c0, c1] : List Value).drop 1).take (Try.prog.cellsOf 23)) = some x1 := hf 1 _ rfl
      rw [cellsCols] at h0
      rw [cellsRows] at h1
      obtain ⟨A, c, l, e0, a1, a2, _, a4⟩ := cols_cell (d := x0.1) (Pl := x0.2) h0
      obtain ⟨A', c', R, e1, b1, _, _, _⟩ := rows_cell (d := x1.1) (Pl := x1.2) h1
      simp at e0 e1
      subst e0 e1
      exact ⟨A, c, l, A', c', R, rfl, a1, a2, a4, b1⟩
end
section
variable {H : Type} {enc : TypeId × Value → H}
set_option maxRecDepth 100000 in
theorem open_rel {W : World} {base : Nat} {v : Value} {d : DataW H} {p : List MemPlace} (hval : Value.okWide Try.prog W .any base 26 v) (h : DataW.Trod enc Try.prog W 0 (fun _ => true) true 26 v d p) :
    ∃ (A : Option Addr) (c : Nat) (l : List ByteArray) (A' : Option Addr) (c' : Nat) (R : List Rw), v = .agg #[.slice A l.length c, .slice A' R.length c'] ∧ SlC W W.heap.size A l ∧ l.length ≤ c ∧ (A = none → l.length = 0 ∧ c = 0) ∧ SlR W W.heap.size A' R := by
  obtain ⟨cs, rfl, hsz⟩ := okWide_struct Try.underlying26 hval
  obtain ⟨fuel, hf⟩ := h
  obtain ⟨A, c, l, A', c', R, hD, h1, h2, h3, h4⟩ := rel_cells hf
  have e : cs.toList = [.slice A l.length c, .slice A' R.length c'] := by simpa [Value.cells] using hD
  exact ⟨A, c, l, A', c', R, by rw [← Array.toArray_toList (xs := cs), e], h1, h2, h3, h4⟩
set_option maxRecDepth 100000 in
theorem open_row {W : World} {base : Nat} {v : Value} {d : DataW H} {p : List MemPlace} (hval : Value.okWide Try.prog W .any base 30 v) (h : DataW.Trod enc Try.prog W 0 (fun _ => true) true 30 v d p) :
    ∃ r : Rw, v = cellR r ∧ RwOk W W.heap.size r := by
  obtain ⟨a1, len, cap, rfl⟩ := okWide_slice Try.underlying30 hval
  obtain ⟨fuel, hf⟩ := h
  obtain ⟨r, hcs, h1⟩ := row_cell hf
  have e : (Value.slice a1 len cap) = cellR r := by simpa [Value.cells] using hcs
  exact ⟨r, e, h1⟩
set_option maxRecDepth 100000 in
theorem rel_after {W W' : World} {v : Value} {d : DataW H} {p : List MemPlace} (h : DataW.Trod enc Try.prog W 0 (fun _ => true) true 26 v d p) (hb : Below W.heap.size W W') (hlt : ∀ x ∈ p, x.block < W.heap.size) :
    DataW.Trod enc Try.prog W' 0 (fun b => decide (b < W.heap.size)) true 26 v d p := Below.trod laidOut (by kernel_rfl) (of_decide_eq_true (by kernel_rfl)) h hb hlt
set_option maxRecDepth 100000 in
theorem row_after {W W' : World} {v : Value} {d : DataW H} {p : List MemPlace} (h : DataW.Trod enc Try.prog W 0 (fun _ => true) true 30 v d p) (hb : Below W.heap.size W W') (hlt : ∀ x ∈ p, x.block < W.heap.size) :
    DataW.Trod enc Try.prog W' 0 (fun b => decide (b < W.heap.size)) true 30 v d p := Below.trod laidOut (by kernel_rfl) (of_decide_eq_true (by kernel_rfl)) h hb hlt
end

namespace rowsPicks
theorem own : ownKnob Try.prog.godebug = none := by kernel_rfl

set_option maxRecDepth 100000 in
theorem lifted (os : Os) (started : os.Started) (H : Type) (enc : TypeId × Value → H) :
    ReturnsInHanded {} Try.checked os 4 .any (Rows.rowsPicksSpec.pre6 enc Try.prog Try.f4 Rows.rowsPicksRow.domain false) (Rows.rowsPicksSpec.post enc Try.prog Try.f4 false true false false) := by
  refine returnsInHanded_of_change (C := Try.checked) own started (by kernel_rfl) Try.func4
    (ChangeSpec.witness6 (enc := enc) (C := Try.checked) false ⟨#[], #[.agg #[.slice none 0 0, .slice none 0 0], .slice none 0 0, .slice none 0 0], []⟩ 8 (by kernel_rfl) (by kernel_rfl) (by kernel_rfl) (by kernel_rfl)) ?_
  intro W base args ds gs before hval0 hW hcnd _
  have hval : ∀ (j : Nat) t v, Try.f4.params[j]? = some t → args[j]? = some v → Value.okWide Try.prog W .any base t v := hval0
  have hW' := hW
  obtain ⟨p, q, hA0, hV, rfl, hfz, hnd⟩ := hW
  have hA : DataW.TrodAll enc Try.prog W 0 (fun _ => true) true Try.f4.params.toList args.toList ds p := hA0
  rw [Try.params4] at hA hval
  obtain ⟨v0, v1, v2, d0, d1, d2, p0, p1, p2, rfl, rfl, rfl, h0, h1, h2⟩ := trodAll_three hA
  obtain ⟨rfl, rfl⟩ := trodVars_none hV
  obtain ⟨A0, c0, l0, A1, c1, R, rfl, a1, a2, a3, a4⟩ := open_rel (hval 0 26 v0 rfl rfl) h0
  obtain ⟨A, c, l, rfl, b1, b2, _, b4⟩ := open_cols (hval 1 22 v1 rfl rfl) h1
  obtain ⟨r, rfl, e1⟩ := open_row (hval 2 30 v2 rfl rfl) h2
  clear hA0 hval0
  simp only [List.append_nil] at hW'
  have k0 : ∀ y ∈ p0, y.block < W.heap.size := fun y hy => by have := hW'.lt y; simp [hy] at this; exact this
  have k1 : ∀ y ∈ p1, y.block < W.heap.size := fun y hy => by have := hW'.lt y; simp [hy] at this; exact this
  have k2 : ∀ y ∈ p2, y.block < W.heap.size := fun y hy => by have := hW'.lt y; simp [hy] at this; exact this
  refine (rowsPicksL_any A0 c0 l0 A1 c1 R A c l r W a1 a4 b1 e1 a3 b4 a2 b2).mono fun e W' ⟨he, bel⟩ => ?_
  subst he
  have hmk := trodAll_mk3 (rel_after h0 bel k0) (cols_after h1 bel k1) (row_after h2 bel k2)
  rw [← List.append_assoc] at hmk
  exact ⟨_, rfl, _, _, _, [], _, [], hW', trodAll_mk1 (shut_bool Try.underlying4 _), hmk, rfl, bel.frame _, fun h => by cases h⟩

theorem proved : Rows.RowsPicksSaid :=
  OpenClaim.holds_of_wide 4 Try.f4 rfl rfl rfl rfl rfl rfl rfl ⟨rfl, rfl, rfl, rfl, rfl⟩ rfl rfl rfl rfl rfl (by kernel_rfl) Try.func4 (by kernel_rfl)
    (of_decide_eq_true (by kernel_rfl)) (by unfold Func.isWrapper; first | (rw [if_pos (by decide +kernel)]; kernel_rfl) | (rw [if_neg (by decide +kernel)]; exact ⟨rfl, rfl⟩))
    (fun os started H enc _ => lifted os started H enc)
end rowsPicks
end Go.Proofs.Ytafnhhbdcleihaa
