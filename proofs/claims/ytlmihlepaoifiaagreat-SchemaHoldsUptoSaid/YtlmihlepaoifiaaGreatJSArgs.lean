import Derived.Deep.Slices
import Derived.JoinedCond
import Derived.Test.YtlmihlepaoifiaaGreatJOArgs
import Derived.Test.YtlmihlepaoifiaaGreatJORdNum
import Derived.Test.YtlmihlepaoifiaaGreatJSLeaf
/-
  ARGUMENTS: a slice of parts that came in; what the bound gives; that it reads behind the call as before.
-/
namespace Go.Proofs.YtlmihlepaoifiaaGreat
open Go.ChangeShapes Go.WideShapes Go.ChangeAt Go.RowKit Go.Joins Go.Deep

theorem bulk_one {H : Type} (d : DataW H) : 1 ≤ Rows.uptoBulk d := by
  cases d with
  | lit l => cases l <;> simp [Rows.uptoBulk]
  | nil => simp [Rows.uptoBulk]
  | ptr d => simp [Rows.uptoBulk]
  | slice elems spare => simp [Rows.uptoBulk]
  | agg parts => simp [Rows.uptoBulk]
  | iface t d => simp [Rows.uptoBulk]
  | map entries => simp [Rows.uptoBulk]
  | held h => simp [Rows.uptoBulk]
theorem bulk_mem {H : Type} {d : DataW H} {l : List (DataW H)} (h : d ∈ l) : Rows.uptoBulk d ≤ Rows.uptoBulkAll l := by
  induction l with
  | nil => cases h
  | cons x r ih =>
    simp only [Rows.uptoBulkAll]
    rcases List.mem_cons.1 h with rfl | h
    · omega
    · have := ih h; omega
theorem bulk_len {H : Type} (l : List (DataW H)) : l.length ≤ Rows.uptoBulkAll l := by
  induction l with
  | nil => simp
  | cons x r ih =>
    have := bulk_one x
    simp only [Rows.uptoBulkAll, List.length_cons]
    omega
theorem cells3 : Tryz.prog.cellsOf 28 = 3 := by kernel_rfl
theorem cellsI : Tryz.prog.cellsOf 3 = 1 := by kernel_rfl
theorem cellsL64 : Tryz.prog.cellsOf 2 = 1 := by kernel_rfl
theorem cellsStr : Tryz.prog.cellsOf 9 = 1 := by kernel_rfl

section
variable {H : Type} {enc : TypeId × Value → H}
end

end Go.Proofs.YtlmihlepaoifiaaGreat

/-
  ARGUMENTS: a slice of spans that came in; that it reads behind the call as before.
-/
namespace Go.Proofs.YtlmihlepaoifiaaGreat
open Go.ChangeShapes Go.WideShapes Go.ChangeAt Go.RowKit Go.Joins Go.Deep

theorem i64_in {x : Int} (h : (Lit.int .i64 x).wf = true) : -9223372036854775808 ≤ x ∧ x ≤ 9223372036854775807 := by
  simpa [Lit.wf, IntKind.min, IntKind.max, IntKind.signed, IntKind.bits] using h
theorem cells2S : Tryz.prog.cellsOf 68 = 2 := by kernel_rfl
theorem cells1L : Tryz.prog.cellsOf 2 = 1 := by kernel_rfl

section
variable {H : Type} {enc : TypeId × Value → H}
set_option maxRecDepth 100000 in
/-- two cells that read as a span -/
theorem span_cells {W : World} {n : Nat} {cs : List Value} {D : DataW H} {Pl : List MemPlace} (h : DataW.trod enc Tryz.prog W 0 (fun _ => true) true n 68 cs = some (D, Pl)) :
    ∃ s : Sp, cs = [.int .i64 s.1, .int .i64 s.2] ∧ SpOk s := by
  obtain ⟨xs, n1, _, hx, hlen, hxl, hf⟩ := DataW.trod_struct Tryz.underlying68 h
  rw [cells2S] at hlen
  match cs, hlen with
  | [c0, c1], _ =>
    match xs, hxl with
    | [x0, x1], _ =>
      have h0 : DataW.trod enc Tryz.prog W 0 (fun _ => true) true n1 2 ((([c0, c1] : List Value).drop 0).take (Tryz.prog.cellsOf 2)) = some x0 := hf 0 _ rfl
      rw [cells1L] at h0
      have h1 : DataW.trod enc Tryz.prog W 0 (fun _ => true) true n1 2 ((([c0, c1] : List Value).drop 1).take (Tryz.prog.cellsOf 2)) = some x1 := hf 1 _ rfl
      rw [cells1L] at h1
      obtain ⟨i, e0, _, w0⟩ := DataW.trod_int Tryz.underlying2 h0
      obtain ⟨j, e1, _, w1⟩ := DataW.trod_int Tryz.underlying2 h1
      simp at e0 e1
      subst e0 e1
      exact ⟨(i, j), rfl, i64_in w0, i64_in w1⟩

end
end Go.Proofs.YtlmihlepaoifiaaGreat
