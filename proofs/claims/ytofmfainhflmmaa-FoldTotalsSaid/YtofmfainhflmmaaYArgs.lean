/-
  ARGUMENTS: values that came in; that they read behind the call as before.
-/
import Derived.Test.YtofmfainhflmmaaZArgs
import Derived.Test.YtofmfainhflmmaaYTotP
namespace Go.Proofs.Ytofmfainhflmmaa
open Go.ChangeShapes Go.WideShapes Go.ChangeAt Go.RowKit Go.Joins Go.Deep

section
variable {H : Type} {enc : TypeId × Value → H}
set_option maxRecDepth 100000 in
/-- a cell that reads as values -/
theorem vals_cell {W : World} {n : Nat} {cs : List Value} {d : DataW H} {Pl : List MemPlace} (hf : DataW.trod enc Try.prog W 0 (fun _ => true) true n 22 cs = some (d, Pl)) : ∃ r : Rw, cs = [cellR r] ∧ RwOk W W.heap.size r := by
  rcases open_slice Try.underlying22 hf with ⟨hcs, _⟩ | ⟨a, len, cap, m, n, D, Pl, hcs, _, hl, hcm, hm, _, hi⟩
  · exact ⟨⟨none, 0, []⟩, hcs, fun h => absurd rfl h, fun _ => ⟨rfl, rfl⟩, Nat.zero_le _, Nat.zero_le _, fun v hv => by cases hv⟩
  · have hml : len ≤ m := by rw [hm]; split <;> omega
    have each : ∀ i, i < len → ∃ q : Vl, (∀ j u, ([Value.int .i64 q.1, .int .i64 q.2.1, .string q.2.2] : List Value)[j]? = some u → W.cell? ((a.add (i * 3)).add j) = some u) ∧ q.2.2.size ≤ maxLen ∧ (-9223372036854775808 ≤ q.2.1 ∧ q.2.1 ≤ 9223372036854775807) := fun i hi' => by
      obtain ⟨cs, hc, ht⟩ := hi i (by omega)
      rw [cellsVl] at hc
      obtain ⟨q, rfl, hsz⟩ := vl_cells ht
      obtain ⟨_, _, hat⟩ := World.cells?_some hc
      refine ⟨q, fun j u hu => ?_, hsz⟩
      have hj : j < 3 := (List.getElem?_eq_some_iff.1 hu).1
      rw [hat j hj]; exact hu
    have hch : ∃ f : Nat → Vl, ∀ i, i < len → (∀ j u, ([Value.int .i64 (f i).1, .int .i64 (f i).2.1, .string (f i).2.2] : List Value)[j]? = some u → W.cell? ((a.add (i * 3)).add j) = some u) ∧ (f i).2.2.size ≤ maxLen ∧ (-9223372036854775808 ≤ (f i).2.1 ∧ (f i).2.1 ≤ 9223372036854775807) := by
      classical
      refine ⟨fun i => if h : i < len then (each i h).choose else (0, 0, ⟨#[]⟩), fun i h => ?_⟩
      simp only [h, dif_pos]
      exact (each i h).choose_spec
    obtain ⟨f, hfp⟩ := hch
    have hlf : ((List.range len).map f).length = len := by simp
    refine ⟨⟨some a, cap, (List.range len).map f⟩, by rw [hcs]; unfold cellR; simp, ⟨fun hne => ?_, (fun e => by cases e), by simp only [hlf]; exact hl, hcm, fun q hq => ?_⟩⟩
    · have h0 : 0 < len := by
        rcases Nat.eq_zero_or_pos len with e | e
        · exact absurd (by rw [e]; rfl) hne
        · exact e
      obtain ⟨ab, ao, spot⟩ := a
      have hc0 := (hfp 0 h0).1 0 _ rfl
      have hspot : spot = none := by simpa [Addr.add] using World.cell?_spot hc0
      subst hspot
      have hb := cell_lt hc0
      rw [add_block, add_block] at hb
      refine ⟨ab, ao, rfl, hb, fun j q hq => ?_⟩
      have hj : j < len := by have := (List.getElem?_eq_some_iff.1 hq).1; rwa [hlf] at this
      have hqe : f j = q := by
        rw [List.getElem?_map, List.getElem?_range hj] at hq
        simpa using hq
      have hcc := (hfp j hj).1
      rw [hqe] at hcc
      have hadd : ∀ i, ((⟨ab, ao, none⟩ : Addr).add (j * 3)).add i = ⟨ab, ao + j * 3 + i, none⟩ := fun i => by
        unfold Addr.add
        split <;> split <;> simp_all <;> omega
      refine ⟨?_, ?_, ?_⟩
      · have := hcc 0 _ rfl; rwa [hadd] at this
      · have := hcc 1 _ rfl; rwa [hadd] at this
      · have := hcc 2 _ rfl; rwa [hadd] at this
    · obtain ⟨i, hi', rfl⟩ := List.mem_map.1 hq
      exact (hfp i (by simpa using hi')).2
set_option maxRecDepth 100000 in
theorem open_vals {W : World} {base : Nat} {v : Value} {d : DataW H} {p : List MemPlace} (hval : Value.okWide Try.prog W .any base 22 v) (h : DataW.Trod enc Try.prog W 0 (fun _ => true) true 22 v d p) :
    ∃ r : Rw, v = cellR r ∧ RwOk W W.heap.size r := by
  obtain ⟨a1, len, cap, rfl⟩ := okWide_slice Try.underlying22 hval
  obtain ⟨fuel, hf⟩ := h
  obtain ⟨r, hcs, h1⟩ := vals_cell hf
  have e : (Value.slice a1 len cap) = cellR r := by simpa [Value.cells] using hcs
  exact ⟨r, e, h1⟩
set_option maxRecDepth 100000 in
theorem vals_after {W W' : World} {v : Value} {d : DataW H} {p : List MemPlace} (h : DataW.Trod enc Try.prog W 0 (fun _ => true) true 22 v d p) (hb : Below W.heap.size W W') (hlt : ∀ x ∈ p, x.block < W.heap.size) :
    DataW.Trod enc Try.prog W' 0 (fun b => decide (b < W.heap.size)) true 22 v d p := Below.trod laidOut (by kernel_rfl) (of_decide_eq_true (by kernel_rfl)) h hb hlt
theorem zOk_n {l : List Vl} (h : zOk l) : nOk l := fun v hv => (h v hv).2
end
end Go.Proofs.Ytofmfainhflmmaa
