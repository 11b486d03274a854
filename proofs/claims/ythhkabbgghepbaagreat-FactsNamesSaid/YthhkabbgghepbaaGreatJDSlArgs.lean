/-
  ARGUMENTS: a slice of datoms that came in; that it reads behind the call as before.
-/
import Derived.Test.YthhkabbgghepbaaGreatJDSl
import Derived.Test.YthhkabbgghepbaaGreatJDArgs
namespace Go.Proofs.YthhkabbgghepbaaGreat
open Go.ChangeShapes Go.WideShapes Go.ChangeAt Go.RowKit Go.Joins Go.Deep

section
variable {H : Type} {enc : TypeId × Value → H}
set_option maxRecDepth 100000 in
theorem open_dlS {W : World} {base : Nat} {v : Value} {d : DataW H} {p : List MemPlace} (hval : Value.okWide Tryz.prog W .any base 22 v) (h : DataW.Trod enc Tryz.prog W 0 (fun _ => true) true 22 v d p) :
    ∃ (A : Option Addr) (c : Nat) (l : List Dat), v = .slice A l.length c ∧ SlD W W.heap.size A l ∧ (∀ q ∈ l, DatOk q) ∧ (∀ q ∈ l, q.s.size ≤ maxLen) ∧ (A = none → l.length = 0 ∧ c = 0) ∧
      ((∀ elems spare, d = .slice elems spare → (elems.length + spare.length) * 80 ≤ 140737488351232) → l.length * 80 ≤ 140737488351232) := by
  obtain ⟨a1, len, cap, rfl⟩ := okWide_slice Tryz.underlying22 hval
  obtain ⟨fuel, hf⟩ := h
  rcases open_slice Tryz.underlying22 hf with ⟨hcs, _⟩ | ⟨a, len', cap', m, n, D, Pl, hcs, _, hl, hcm, hm, hx, hi⟩
  · simp [Value.cells] at hcs
    obtain ⟨rfl, rfl, rfl⟩ := hcs
    exact ⟨none, 0, [], rfl, fun h => absurd rfl h, fun q hq => (by cases hq), fun q hq => (by cases hq), fun _ => ⟨rfl, rfl⟩, fun _ => by simp⟩
  · simp [Value.cells] at hcs
    obtain ⟨rfl, rfl, rfl⟩ := hcs
    have hml : len ≤ m := by rw [hm]; split <;> omega
    have each : ∀ i, i < len → ∃ q : Dat, (∀ j u, (cellsD q)[j]? = some u → W.cell? ((a.add (i * 9)).add j) = some u) ∧ DatOk q ∧ q.s.size ≤ maxLen := fun i hi' => by
      obtain ⟨cs, hc, ht⟩ := hi i (by omega)
      rw [cells9] at hc
      obtain ⟨q, rfl, hok, hsz, _⟩ := dat_cells ht
      obtain ⟨_, _, hat⟩ := World.cells?_some hc
      refine ⟨q, fun j u hu => ?_, hok, hsz⟩
      have hj : j < 9 := (List.getElem?_eq_some_iff.1 hu).1
      rw [hat j hj]; exact hu
    have hch : ∃ f : Nat → Dat, ∀ i, i < len → (∀ j u, (cellsD (f i))[j]? = some u → W.cell? ((a.add (i * 9)).add j) = some u) ∧ DatOk (f i) ∧ (f i).s.size ≤ maxLen := by
      classical
      refine ⟨fun i => if h : i < len then (each i h).choose else ⟨0, 0, 0, 0, ⟨#[]⟩, 0, false, 0, 0⟩, fun i h => ?_⟩
      simp only [h, dif_pos]
      exact (each i h).choose_spec
    obtain ⟨f, hfp⟩ := hch
    have hlf : ((List.range len).map f).length = len := by simp
    refine ⟨some a, cap, (List.range len).map f, by rw [hlf], fun hne => ?_, fun q hq => ?_, fun q hq => ?_, (fun h => by cases h), fun hb => ?_⟩
    · have h0 : 0 < len := by
        rcases Nat.eq_zero_or_pos len with e | e
        · exact absurd (by rw [e]; rfl) hne
        · exact e
      obtain ⟨ab, ao, spot⟩ := a
      have hc0 := (hfp 0 h0).1 0 _ rfl
      have hspot : spot = none := by simpa [Addr.add] using World.cell?_spot hc0
      subst hspot
      have hb := cell_lt hc0
      rw [add_block, add_block] at hb
      refine ⟨ab, ao, rfl, hb, fun j q hq => ?_⟩
      have hj : j < len := by have := (List.getElem?_eq_some_iff.1 hq).1; rwa [hlf] at this
      have hqe : f j = q := by
        rw [List.getElem?_map, List.getElem?_range hj] at hq
        simpa using hq
      have hcc := (hfp j hj).1
      rw [hqe] at hcc
      have hadd : ∀ i, ((⟨ab, ao, none⟩ : Addr).add (j * 9)).add i = ⟨ab, ao + j * 9 + i, none⟩ := fun i => by
        unfold Addr.add
        split <;> split <;> simp_all <;> omega
      intro i hi9
      have hi2 : i < (cellsD q).length := hi9
      have := hcc i _ (List.getElem?_eq_getElem hi2)
      rw [hadd] at this
      rw [this, List.getElem?_eq_getElem hi2]
    · obtain ⟨i, hi', rfl⟩ := List.mem_map.1 hq
      exact (hfp i (by simpa using hi')).2.1
    · obtain ⟨i, hi', rfl⟩ := List.mem_map.1 hq
      exact (hfp i (by simpa using hi')).2.2
    · have hd : d = .slice ((List.range len).map D) ((List.range (m - len)).map fun j => D (len + j)) := congrArg Prod.fst hx
      have := hb _ _ hd
      simp at this
      rw [hlf]
      omega
set_option maxRecDepth 100000 in
theorem open_dl {W : World} {base : Nat} {v : Value} {d : DataW H} {p : List MemPlace} (hval : Value.okWide Tryz.prog W .any base 22 v) (h : DataW.Trod enc Tryz.prog W 0 (fun _ => true) true 22 v d p) :
    ∃ (A : Option Addr) (c : Nat) (l : List Dat), v = .slice A l.length c ∧ SlD W W.heap.size A l ∧ (∀ q ∈ l, DatOk q) ∧ (∀ q ∈ l, q.s.size ≤ maxLen) ∧ (A = none → l.length = 0 ∧ c = 0) ∧
      ((∀ elems spare, d = .slice elems spare → (elems.length + spare.length) * 80 ≤ 140737488351232) → l.length * 80 ≤ 140737488355328) := by
  obtain ⟨A, c, l, e, h1, h2, h3, h4, h5⟩ := open_dlS hval h
  exact ⟨A, c, l, e, h1, h2, h3, h4, fun hh => by have := h5 hh; omega⟩
theorem dl_after {W W' : World} {v : Value} {d : DataW H} {p : List MemPlace} (h : DataW.Trod enc Tryz.prog W 0 (fun _ => true) true 22 v d p) (hb : Below W.heap.size W W') (hlt : ∀ x ∈ p, x.block < W.heap.size) :
    DataW.Trod enc Tryz.prog W' 0 (fun b => decide (b < W.heap.size)) true 22 v d p := Below.trod laidOut (by kernel_rfl) (of_decide_eq_true (by kernel_rfl)) h hb hlt
theorem bytesD : Tryz.prog.bytesOf 46 = 80 := by kernel_rfl
end
end Go.Proofs.YthhkabbgghepbaaGreat
