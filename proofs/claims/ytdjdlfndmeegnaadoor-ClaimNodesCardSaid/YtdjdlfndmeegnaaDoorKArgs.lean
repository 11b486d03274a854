/-
  ARGUMENTS: a form that came in; that it reads behind the call as before.
-/
import Derived.Test.YtdjdlfndmeegnaaDoorOArgs
import Derived.Test.YtdjdlfndmeegnaaDoorKPure
import Derived.Deep.Slices
import Derived.JoinedCond
namespace Go.Proofs.YtdjdlfndmeegnaaDoor
open Go.RowKit
open Go.ChangeShapes Go.WideShapes Go.ChangeAt Go.Joins Go.Deep

theorem cells3k : Tryd.prog.cellsOf 23 = 3 := by kernel_rfl
theorem cells6k : Tryd.prog.cellsOf 25 = 6 := by kernel_rfl
theorem cells10k : Tryd.prog.cellsOf 27 = 10 := by kernel_rfl
theorem cells30k : Tryd.prog.cellsOf 29 = 30 := by kernel_rfl
theorem cellsIk : Tryd.prog.cellsOf 3 = 1 := by kernel_rfl
theorem cells64k : Tryd.prog.cellsOf 2 = 1 := by kernel_rfl
theorem cellsSk : Tryd.prog.cellsOf 9 = 1 := by kernel_rfl
theorem cellsBk : Tryd.prog.cellsOf 4 = 1 := by kernel_rfl
section
variable {H : Type} {enc : TypeId × Value → H}
set_option maxRecDepth 100000 in
/-- three cells that read as a value -/
theorem val_cells {W : World} {n : Nat} {cs : List Value} {D : DataW H} {Pl : List MemPlace} (h : DataW.trod enc Tryd.prog W 0 (fun _ => true) true n 23 cs = some (D, Pl)) : ∃ k m s, cs = [.int .i64 k, .int .i64 m, .string s] := by
  obtain ⟨xs, n1, _, _, hlen, hxl, hf⟩ := DataW.trod_struct Tryd.underlying23 h
  rw [cells3k] at hlen
  match cs, hlen with
  | [c0, c1, c2], _ =>
    match xs, hxl with
    | [x0, x1, x2], _ =>
      have h0 : DataW.trod enc Tryd.prog W 0 (fun _ => true) true n1 3 ((([c0, c1, c2] : List Value).drop 0).take (Tryd.prog.cellsOf 3)) = some x0 := hf 0 _ rfl
      rw [cellsIk] at h0
      have h1 : DataW.trod enc Tryd.prog W 0 (fun _ => true) true n1 2 ((([c0, c1, c2] : List Value).drop 1).take (Tryd.prog.cellsOf 2)) = some x1 := hf 1 _ rfl
      rw [cells64k] at h1
      have h2 : DataW.trod enc Tryd.prog W 0 (fun _ => true) true n1 9 ((([c0, c1, c2] : List Value).drop 2).take (Tryd.prog.cellsOf 9)) = some x2 := hf 2 _ rfl
      rw [cellsSk] at h2
      obtain ⟨i0, e0, _, _⟩ := DataW.trod_int Tryd.underlying3 h0
      obtain ⟨i1, e1, _, _⟩ := DataW.trod_int Tryd.underlying2 h1
      obtain ⟨i2, e2, _, _⟩ := DataW.trod_string Tryd.underlying9 h2
      simp at e0
      subst e0
      simp at e1
      subst e1
      simp at e2
      subst e2
      exact ⟨i0, i1, i2, rfl⟩
set_option maxRecDepth 100000 in
/-- six cells that read as an entity -/
theorem ent_cells {W : World} {n : Nat} {cs : List Value} {D : DataW H} {Pl : List MemPlace} (h : DataW.trod enc Tryd.prog W 0 (fun _ => true) true n 25 cs = some (D, Pl)) : ∃ x : En, cs = [.int .i64 x.k, .int .i64 x.n, .string x.nm, .int .i64 x.vk, .int .i64 x.vn, .string x.vs] := by
  obtain ⟨xs, n1, _, _, hlen, hxl, hf⟩ := DataW.trod_struct Tryd.underlying25 h
  rw [cells6k] at hlen
  match cs, hlen with
  | [c0, c1, c2, c3, c4, c5], _ =>
    match xs, hxl with
    | [x0, x1, x2, x3], _ =>
      have h0 : DataW.trod enc Tryd.prog W 0 (fun _ => true) true n1 3 ((([c0, c1, c2, c3, c4, c5] : List Value).drop 0).take (Tryd.prog.cellsOf 3)) = some x0 := hf 0 _ rfl
      rw [cellsIk] at h0
      have h1 : DataW.trod enc Tryd.prog W 0 (fun _ => true) true n1 2 ((([c0, c1, c2, c3, c4, c5] : List Value).drop 1).take (Tryd.prog.cellsOf 2)) = some x1 := hf 1 _ rfl
      rw [cells64k] at h1
      have h2 : DataW.trod enc Tryd.prog W 0 (fun _ => true) true n1 9 ((([c0, c1, c2, c3, c4, c5] : List Value).drop 2).take (Tryd.prog.cellsOf 9)) = some x2 := hf 2 _ rfl
      rw [cellsSk] at h2
      have h3 : DataW.trod enc Tryd.prog W 0 (fun _ => true) true n1 23 ((([c0, c1, c2, c3, c4, c5] : List Value).drop 3).take (Tryd.prog.cellsOf 23)) = some x3 := hf 3 _ rfl
      rw [cells3k] at h3
      obtain ⟨i0, e0, _, _⟩ := DataW.trod_int Tryd.underlying3 h0
      obtain ⟨i1, e1, _, _⟩ := DataW.trod_int Tryd.underlying2 h1
      obtain ⟨i2, e2, _, _⟩ := DataW.trod_string Tryd.underlying9 h2
      obtain ⟨k3, m3, s3, e3⟩ := val_cells h3
      simp at e0
      subst e0
      simp at e1
      subst e1
      simp at e2
      subst e2
      simp only [List.drop_succ_cons, List.drop_zero, List.take_succ_cons, List.take_zero, List.cons.injEq, and_true] at e3
      obtain ⟨rfl, rfl, rfl⟩ := e3
      exact ⟨⟨i0, i1, i2, k3, m3, s3⟩, rfl⟩
set_option maxRecDepth 100000 in
/-- ten cells that read as a term -/
theorem trm_cells {W : World} {n : Nat} {cs : List Value} {D : DataW H} {Pl : List MemPlace} (h : DataW.trod enc Tryd.prog W 0 (fun _ => true) true n 27 cs = some (D, Pl)) : ∃ x : Tm, cs = [.bool x.ent, .int .i64 x.vk, .int .i64 x.vn, .string x.vs, .int .i64 x.e.k, .int .i64 x.e.n, .string x.e.nm, .int .i64 x.e.vk, .int .i64 x.e.vn, .string x.e.vs] := by
  obtain ⟨xs, n1, _, _, hlen, hxl, hf⟩ := DataW.trod_struct Tryd.underlying27 h
  rw [cells10k] at hlen
  match cs, hlen with
  | [c0, c1, c2, c3, c4, c5, c6, c7, c8, c9], _ =>
    match xs, hxl with
    | [x0, x1, x2], _ =>
      have h0 : DataW.trod enc Tryd.prog W 0 (fun _ => true) true n1 4 ((([c0, c1, c2, c3, c4, c5, c6, c7, c8, c9] : List Value).drop 0).take (Tryd.prog.cellsOf 4)) = some x0 := hf 0 _ rfl
      rw [cellsBk] at h0
      have h1 : DataW.trod enc Tryd.prog W 0 (fun _ => true) true n1 23 ((([c0, c1, c2, c3, c4, c5, c6, c7, c8, c9] : List Value).drop 1).take (Tryd.prog.cellsOf 23)) = some x1 := hf 1 _ rfl
      rw [cells3k] at h1
      have h2 : DataW.trod enc Tryd.prog W 0 (fun _ => true) true n1 25 ((([c0, c1, c2, c3, c4, c5, c6, c7, c8, c9] : List Value).drop 4).take (Tryd.prog.cellsOf 25)) = some x2 := hf 2 _ rfl
      rw [cells6k] at h2
      obtain ⟨i0, e0, _⟩ := DataW.trod_bool Tryd.underlying4 h0
      obtain ⟨k1, m1, s1, e1⟩ := val_cells h1
      obtain ⟨i2, e2⟩ := ent_cells h2
      simp at e0
      subst e0
      simp only [List.drop_succ_cons, List.drop_zero, List.take_succ_cons, List.take_zero, List.cons.injEq, and_true] at e1
      obtain ⟨rfl, rfl, rfl⟩ := e1
      simp only [List.drop_succ_cons, List.drop_zero, List.take_succ_cons, List.take_zero, List.cons.injEq, and_true] at e2
      obtain ⟨rfl, rfl, rfl, rfl, rfl, rfl⟩ := e2
      exact ⟨⟨i0, k1, m1, s1, i2⟩, rfl⟩
set_option maxRecDepth 100000 in
/-- thirty cells that read as a form -/
theorem frm_cells {W : World} {n : Nat} {cs : List Value} {D : DataW H} {Pl : List MemPlace} (h : DataW.trod enc Tryd.prog W 0 (fun _ => true) true n 29 cs = some (D, Pl)) : ∃ x : Fm, ((Lit.int .i64 x.fr).wf = true ∧ (Lit.int .i64 x.til).wf = true) ∧ cs = [.int .i64 x.op, .int .i64 x.e.k, .int .i64 x.e.n, .string x.e.nm, .int .i64 x.e.vk, .int .i64 x.e.vn, .string x.e.vs, .string x.a, .bool x.v.ent, .int .i64 x.v.vk, .int .i64 x.v.vn, .string x.v.vs, .int .i64 x.v.e.k, .int .i64 x.v.e.n, .string x.v.e.nm, .int .i64 x.v.e.vk, .int .i64 x.v.e.vn, .string x.v.e.vs, .bool x.old.ent, .int .i64 x.old.vk, .int .i64 x.old.vn, .string x.old.vs, .int .i64 x.old.e.k, .int .i64 x.old.e.n, .string x.old.e.nm, .int .i64 x.old.e.vk, .int .i64 x.old.e.vn, .string x.old.e.vs, .int .i64 x.fr, .int .i64 x.til] := by
  obtain ⟨xs, n1, _, _, hlen, hxl, hf⟩ := DataW.trod_struct Tryd.underlying29 h
  rw [cells30k] at hlen
  match cs, hlen with
  | [c0, c1, c2, c3, c4, c5, c6, c7, c8, c9, c10, c11, c12, c13, c14, c15, c16, c17, c18, c19, c20, c21, c22, c23, c24, c25, c26, c27, c28, c29], _ =>
    match xs, hxl with
    | [x0, x1, x2, x3, x4, x5, x6], _ =>
      have h0 : DataW.trod enc Tryd.prog W 0 (fun _ => true) true n1 3 ((([c0, c1, c2, c3, c4, c5, c6, c7, c8, c9, c10, c11, c12, c13, c14, c15, c16, c17, c18, c19, c20, c21, c22, c23, c24, c25, c26, c27, c28, c29] : List Value).drop 0).take (Tryd.prog.cellsOf 3)) = some x0 := hf 0 _ rfl
      rw [cellsIk] at h0
      have h1 : DataW.trod enc Tryd.prog W 0 (fun _ => true) true n1 25 ((([c0, c1, c2, c3, c4, c5, c6, c7, c8, c9, c10, c11, c12, c13, c14, c15, c16, c17, c18, c19, c20, c21, c22, c23, c24, c25, c26, c27, c28, c29] : List Value).drop 1).take (Tryd.prog.cellsOf 25)) = some x1 := hf 1 _ rfl
      rw [cells6k] at h1
      have h2 : DataW.trod enc Tryd.prog W 0 (fun _ => true) true n1 9 ((([c0, c1, c2, c3, c4, c5, c6, c7, c8, c9, c10, c11, c12, c13, c14, c15, c16, c17, c18, c19, c20, c21, c22, c23, c24, c25, c26, c27, c28, c29] : List Value).drop 7).take (Tryd.prog.cellsOf 9)) = some x2 := hf 2 _ rfl
      rw [cellsSk] at h2
      have h3 : DataW.trod enc Tryd.prog W 0 (fun _ => true) true n1 27 ((([c0, c1, c2, c3, c4, c5, c6, c7, c8, c9, c10, c11, c12, c13, c14, c15, c16, c17, c18, c19, c20, c21, c22, c23, c24, c25, c26, c27, c28, c29] : List Value).drop 8).take (Tryd.prog.cellsOf 27)) = some x3 := hf 3 _ rfl
      rw [cells10k] at h3
      have h4 : DataW.trod enc Tryd.prog W 0 (fun _ => true) true n1 27 ((([c0, c1, c2, c3, c4, c5, c6, c7, c8, c9, c10, c11, c12, c13, c14, c15, c16, c17, c18, c19, c20, c21, c22, c23, c24, c25, c26, c27, c28, c29] : List Value).drop 18).take (Tryd.prog.cellsOf 27)) = some x4 := hf 4 _ rfl
      rw [cells10k] at h4
      have h5 : DataW.trod enc Tryd.prog W 0 (fun _ => true) true n1 2 ((([c0, c1, c2, c3, c4, c5, c6, c7, c8, c9, c10, c11, c12, c13, c14, c15, c16, c17, c18, c19, c20, c21, c22, c23, c24, c25, c26, c27, c28, c29] : List Value).drop 28).take (Tryd.prog.cellsOf 2)) = some x5 := hf 5 _ rfl
      rw [cells64k] at h5
      have h6 : DataW.trod enc Tryd.prog W 0 (fun _ => true) true n1 2 ((([c0, c1, c2, c3, c4, c5, c6, c7, c8, c9, c10, c11, c12, c13, c14, c15, c16, c17, c18, c19, c20, c21, c22, c23, c24, c25, c26, c27, c28, c29] : List Value).drop 29).take (Tryd.prog.cellsOf 2)) = some x6 := hf 6 _ rfl
      rw [cells64k] at h6
      obtain ⟨i0, e0, _, _⟩ := DataW.trod_int Tryd.underlying3 h0
      obtain ⟨i1, e1⟩ := ent_cells h1
      obtain ⟨i2, e2, _, _⟩ := DataW.trod_string Tryd.underlying9 h2
      obtain ⟨i3, e3⟩ := trm_cells h3
      obtain ⟨i4, e4⟩ := trm_cells h4
      obtain ⟨i5, e5, _, wf5⟩ := DataW.trod_int Tryd.underlying2 h5
      obtain ⟨i6, e6, _, wf6⟩ := DataW.trod_int Tryd.underlying2 h6
      simp at e0
      subst e0
      simp only [List.drop_succ_cons, List.drop_zero, List.take_succ_cons, List.take_zero, List.cons.injEq, and_true] at e1
      obtain ⟨rfl, rfl, rfl, rfl, rfl, rfl⟩ := e1
      simp at e2
      subst e2
      simp only [List.drop_succ_cons, List.drop_zero, List.take_succ_cons, List.take_zero, List.cons.injEq, and_true] at e3
      obtain ⟨rfl, rfl, rfl, rfl, rfl, rfl, rfl, rfl, rfl, rfl⟩ := e3
      simp only [List.drop_succ_cons, List.drop_zero, List.take_succ_cons, List.take_zero, List.cons.injEq, and_true] at e4
      obtain ⟨rfl, rfl, rfl, rfl, rfl, rfl, rfl, rfl, rfl, rfl⟩ := e4
      simp at e5
      subst e5
      simp at e6
      subst e6
      exact ⟨⟨i0, i1, i2, i3, i4, i5, i6⟩, ⟨wf5, wf6⟩, rfl⟩
set_option maxRecDepth 100000 in
theorem open_frm {W : World} {base : Nat} {v : Value} {d : DataW H} {p : List MemPlace} (hval : Value.okWide Tryd.prog W .any base 29 v) (h : DataW.Trod enc Tryd.prog W 0 (fun _ => true) true 29 v d p) :
    ∃ f : Fm, v = .agg #[.int .i64 f.op, .int .i64 f.e.k, .int .i64 f.e.n, .string f.e.nm, .int .i64 f.e.vk, .int .i64 f.e.vn, .string f.e.vs, .string f.a, .bool f.v.ent, .int .i64 f.v.vk, .int .i64 f.v.vn, .string f.v.vs, .int .i64 f.v.e.k, .int .i64 f.v.e.n, .string f.v.e.nm, .int .i64 f.v.e.vk, .int .i64 f.v.e.vn, .string f.v.e.vs, .bool f.old.ent, .int .i64 f.old.vk, .int .i64 f.old.vn, .string f.old.vs, .int .i64 f.old.e.k, .int .i64 f.old.e.n, .string f.old.e.nm, .int .i64 f.old.e.vk, .int .i64 f.old.e.vn, .string f.old.e.vs, .int .i64 f.fr, .int .i64 f.til] ∧ minT ≤ f.fr ∧ f.til ≤ maxT := by
  obtain ⟨cs, rfl, hsz⟩ := okWide_struct Tryd.underlying29 hval
  obtain ⟨fuel, hf⟩ := h
  obtain ⟨D, ⟨w5, w6⟩, hD⟩ := frm_cells hf
  have e : cs.toList = [.int .i64 D.op, .int .i64 D.e.k, .int .i64 D.e.n, .string D.e.nm, .int .i64 D.e.vk, .int .i64 D.e.vn, .string D.e.vs, .string D.a, .bool D.v.ent, .int .i64 D.v.vk, .int .i64 D.v.vn, .string D.v.vs, .int .i64 D.v.e.k, .int .i64 D.v.e.n, .string D.v.e.nm, .int .i64 D.v.e.vk, .int .i64 D.v.e.vn, .string D.v.e.vs, .bool D.old.ent, .int .i64 D.old.vk, .int .i64 D.old.vn, .string D.old.vs, .int .i64 D.old.e.k, .int .i64 D.old.e.n, .string D.old.e.nm, .int .i64 D.old.e.vk, .int .i64 D.old.e.vn, .string D.old.e.vs, .int .i64 D.fr, .int .i64 D.til] := by simpa [Value.cells] using hD
  exact ⟨D, by rw [← Array.toArray_toList (xs := cs), e], (bounds_i64 w5).1, (bounds_i64 w6).2⟩
set_option maxRecDepth 100000 in
theorem frm_after {W W' : World} {v : Value} {d : DataW H} {p : List MemPlace} (h : DataW.Trod enc Tryd.prog W 0 (fun _ => true) true 29 v d p) (hb : Below W.heap.size W W') (hlt : ∀ x ∈ p, x.block < W.heap.size) :
    DataW.Trod enc Tryd.prog W' 0 (fun b => decide (b < W.heap.size)) true 29 v d p := Below.trod laidOut (by kernel_rfl) (of_decide_eq_true (by kernel_rfl)) h hb hlt
end

end Go.Proofs.YtdjdlfndmeegnaaDoor
