import Derived.Deep.Slices
import Derived.JoinedCond
import Derived.Test.YtbcdkfolmncjlaaJOArgs
import Derived.Test.YtbcdkfolmncjlaaJOParts
import Derived.Test.YtbcdkfolmncjlaaJSLeaf
/-
  ARGUMENTS: a slice of parts that came in; what the bound gives; that it reads behind the call as before.
-/
namespace Go.Proofs.Ytbcdkfolmncjlaa
open Go.ChangeShapes Go.WideShapes Go.ChangeAt Go.RowKit Go.Joins Go.Deep

theorem bulk_one {H : Type} (d : DataW H) : 1 ≤ Rows.uptoBulk d := by
  cases d with
  | lit l => cases l <;> simp [Rows.uptoBulk]
  | nil => simp [Rows.uptoBulk]
  | ptr d => simp [Rows.uptoBulk]
  | slice elems spare => simp [Rows.uptoBulk]
  | agg parts => simp [Rows.uptoBulk]
  | iface t d => simp [Rows.uptoBulk]
  | map entries => simp [Rows.uptoBulk]
  | held h => simp [Rows.uptoBulk]
theorem bulk_mem {H : Type} {d : DataW H} {l : List (DataW H)} (h : d ∈ l) : Rows.uptoBulk d ≤ Rows.uptoBulkAll l := by
  induction l with
  | nil => cases h
  | cons x r ih =>
    simp only [Rows.uptoBulkAll]
    rcases List.mem_cons.1 h with rfl | h
    · omega
    · have := ih h; omega
theorem bulk_len {H : Type} (l : List (DataW H)) : l.length ≤ Rows.uptoBulkAll l := by
  induction l with
  | nil => simp
  | cons x r ih =>
    have := bulk_one x
    simp only [Rows.uptoBulkAll, List.length_cons]
    omega
theorem i64_ok {x : Int} (h : (Lit.int .i64 x).wf = true) : -9223372036854775808 ≤ x ∧ x ≤ 9223372036854775807 := by
  simpa [Lit.wf, IntKind.min, IntKind.max, IntKind.signed, IntKind.bits] using h
theorem cells3 : Try.prog.cellsOf 27 = 3 := by kernel_rfl
theorem cellsB : Try.prog.cellsOf 4 = 1 := by kernel_rfl
theorem cellsI : Try.prog.cellsOf 3 = 1 := by kernel_rfl
theorem cellsL64 : Try.prog.cellsOf 2 = 1 := by kernel_rfl
theorem cellsStr : Try.prog.cellsOf 9 = 1 := by kernel_rfl

section
variable {H : Type} {enc : TypeId × Value → H}
end

end Go.Proofs.Ytbcdkfolmncjlaa

/-
  ARGUMENTS: a slice of spans that came in; that it reads behind the call as before.
-/
namespace Go.Proofs.Ytbcdkfolmncjlaa
open Go.ChangeShapes Go.WideShapes Go.ChangeAt Go.RowKit Go.Joins Go.Deep

theorem i64_in {x : Int} (h : (Lit.int .i64 x).wf = true) : -9223372036854775808 ≤ x ∧ x ≤ 9223372036854775807 := by
  simpa [Lit.wf, IntKind.min, IntKind.max, IntKind.signed, IntKind.bits] using h
theorem cells2S : Try.prog.cellsOf 34 = 2 := by kernel_rfl
theorem cells1L : Try.prog.cellsOf 2 = 1 := by kernel_rfl

section
variable {H : Type} {enc : TypeId × Value → H}
set_option maxRecDepth 100000 in
/-- two cells that read as a span -/
theorem span_cells {W : World} {n : Nat} {cs : List Value} {D : DataW H} {Pl : List MemPlace} (h : DataW.trod enc Try.prog W 0 (fun _ => true) true n 34 cs = some (D, Pl)) :
    ∃ s : Sp, cs = [.int .i64 s.1, .int .i64 s.2] ∧ SpOk s := by
  obtain ⟨xs, n1, _, hx, hlen, hxl, hf⟩ := DataW.trod_struct Try.underlying34 h
  rw [cells2S] at hlen
  match cs, hlen with
  | [c0, c1], _ =>
    match xs, hxl with
    | [x0, x1], _ =>
      have h0 : DataW.trod enc Try.prog W 0 (fun _ => true) true n1 2 ((([c0, c1] : List Value).drop 0).take (Try.prog.cellsOf 2)) = some x0 := hf 0 _ rfl
      rw [cells1L] at h0
      have h1 : DataW.trod enc Try.prog W 0 (fun _ => true) true n1 2 ((([c0, c1] : List Value).drop 1).take (Try.prog.cellsOf 2)) = some x1 := hf 1 _ rfl
      rw [cells1L] at h1
      obtain ⟨i, e0, _, w0⟩ := DataW.trod_int Try.underlying2 h0
      obtain ⟨j, e1, _, w1⟩ := DataW.trod_int Try.underlying2 h1
      simp at e0 e1
      subst e0 e1
      exact ⟨(i, j), rfl, i64_in w0, i64_in w1⟩

set_option maxRecDepth 100000 in
theorem open_ss {W : World} {base : Nat} {v : Value} {d : DataW H} {p : List MemPlace} (hval : Value.okWide Try.prog W .any base 28 v) (h : DataW.Trod enc Try.prog W 0 (fun _ => true) true 28 v d p) :
    ∃ (A : Option Addr) (c : Nat) (l : List Sp), v = .slice A l.length c ∧ SlS W W.heap.size A l ∧ (∀ q ∈ l, SpOk q) ∧ l.length ≤ c ∧ c ≤ maxLen := by
  obtain ⟨a1, len, cap, rfl⟩ := okWide_slice Try.underlying28 hval
  obtain ⟨fuel, hf⟩ := h
  rcases open_slice Try.underlying28 hf with ⟨hcs, _⟩ | ⟨a, len', cap', m, n, D, Pl, hcs, _, hl, hcm, hm, hx, hi⟩
  · simp [Value.cells] at hcs
    obtain ⟨rfl, rfl, rfl⟩ := hcs
    exact ⟨none, 0, [], rfl, fun h => absurd rfl h, fun q hq => (by cases hq), Nat.zero_le _, Nat.zero_le _⟩
  · simp [Value.cells] at hcs
    obtain ⟨rfl, rfl, rfl⟩ := hcs
    have hml : len ≤ m := by rw [hm]; split <;> omega
    have each : ∀ i, i < len → ∃ q : Sp, (∀ j u, ([Value.int .i64 q.1, .int .i64 q.2] : List Value)[j]? = some u → W.cell? ((a.add (i * 2)).add j) = some u) ∧ SpOk q := fun i hi' => by
      obtain ⟨cs, hc, ht⟩ := hi i (by omega)
      rw [cells2S] at hc
      obtain ⟨q, rfl, hok⟩ := span_cells ht
      obtain ⟨_, _, hat⟩ := World.cells?_some hc
      refine ⟨q, fun j u hu => ?_, hok⟩
      have hj : j < 2 := (List.getElem?_eq_some_iff.1 hu).1
      rw [hat j hj]; exact hu
    have hch : ∃ f : Nat → Sp, ∀ i, i < len → (∀ j u, ([Value.int .i64 (f i).1, .int .i64 (f i).2] : List Value)[j]? = some u → W.cell? ((a.add (i * 2)).add j) = some u) ∧ SpOk (f i) := by
      classical
      refine ⟨fun i => if h : i < len then (each i h).choose else (0, 0), fun i h => ?_⟩
      simp only [h, dif_pos]
      exact (each i h).choose_spec
    obtain ⟨f, hfp⟩ := hch
    have hlf : ((List.range len).map f).length = len := by simp
    refine ⟨some a, cap, (List.range len).map f, by rw [hlf], fun hne => ?_, fun q hq => ?_, by rw [hlf]; exact hl, hcm⟩
    · have h0 : 0 < len := by
        rcases Nat.eq_zero_or_pos len with e | e
        · exact absurd (by rw [e]; rfl) hne
        · exact e
      obtain ⟨ab, ao, spot⟩ := a
      have hc0 := (hfp 0 h0).1 0 _ rfl
      have hspot : spot = none := by simpa [Addr.add] using World.cell?_spot hc0
      subst hspot
      have hb := cell_lt hc0
      rw [add_block, add_block] at hb
      refine ⟨ab, ao, rfl, hb, fun j q hq => ?_⟩
      have hj : j < len := by have := (List.getElem?_eq_some_iff.1 hq).1; rwa [hlf] at this
      have hqe : f j = q := by
        rw [List.getElem?_map, List.getElem?_range hj] at hq
        simpa using hq
      have hcc := (hfp j hj).1
      rw [hqe] at hcc
      have hadd : ∀ i, ((⟨ab, ao, none⟩ : Addr).add (j * 2)).add i = ⟨ab, ao + j * 2 + i, none⟩ := fun i => by
        unfold Addr.add
        split <;> split <;> simp_all <;> omega
      refine ⟨?_, ?_⟩
      · have := hcc 0 _ rfl; rwa [hadd] at this
      · have := hcc 1 _ rfl; rwa [hadd] at this
    · obtain ⟨i, hi', rfl⟩ := List.mem_map.1 hq
      exact (hfp i (by simpa using hi')).2
theorem ss_after {W W' : World} {v : Value} {d : DataW H} {p : List MemPlace} (h : DataW.Trod enc Try.prog W 0 (fun _ => true) true 28 v d p) (hb : Below W.heap.size W W') (hlt : ∀ x ∈ p, x.block < W.heap.size) :
    DataW.Trod enc Try.prog W' 0 (fun b => decide (b < W.heap.size)) true 28 v d p := Below.trod laidOut (by kernel_rfl) (of_decide_eq_true (by kernel_rfl)) h hb hlt
end
end Go.Proofs.Ytbcdkfolmncjlaa
