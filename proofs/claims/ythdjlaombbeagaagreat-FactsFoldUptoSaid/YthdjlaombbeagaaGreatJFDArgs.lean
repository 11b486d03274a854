import Derived.Deep.Slices
import Derived.JoinedCond
import Derived.Test.YthdjlaombbeagaaGreatJOArgs
import Derived.Test.YthdjlaombbeagaaGreatJORdNum
/-
  ARGUMENTS: a slice of parts that came in; what the bound gives; that it reads behind the call as before.
-/
namespace Go.Proofs.YthdjlaombbeagaaGreat
open Go.ChangeShapes Go.WideShapes Go.ChangeAt Go.RowKit Go.Joins Go.Deep

theorem bulk_one {H : Type} (d : DataW H) : 1 ≤ Rows.uptoBulk d := by
  cases d with
  | lit l => cases l <;> simp [Rows.uptoBulk]
  | nil => simp [Rows.uptoBulk]
  | ptr d => simp [Rows.uptoBulk]
  | slice elems spare => simp [Rows.uptoBulk]
  | agg parts => simp [Rows.uptoBulk]
  | iface t d => simp [Rows.uptoBulk]
  | map entries => simp [Rows.uptoBulk]
  | held h => simp [Rows.uptoBulk]
theorem bulk_mem {H : Type} {d : DataW H} {l : List (DataW H)} (h : d ∈ l) : Rows.uptoBulk d ≤ Rows.uptoBulkAll l := by
  induction l with
  | nil => cases h
  | cons x r ih =>
    simp only [Rows.uptoBulkAll]
    rcases List.mem_cons.1 h with rfl | h
    · omega
    · have := ih h; omega
theorem bulk_len {H : Type} (l : List (DataW H)) : l.length ≤ Rows.uptoBulkAll l := by
  induction l with
  | nil => simp
  | cons x r ih =>
    have := bulk_one x
    simp only [Rows.uptoBulkAll, List.length_cons]
    omega
theorem i64_ok {x : Int} (h : (Lit.int .i64 x).wf = true) : -9223372036854775808 ≤ x ∧ x ≤ 9223372036854775807 := by
  simpa [Lit.wf, IntKind.min, IntKind.max, IntKind.signed, IntKind.bits] using h
theorem cells3 : Tryz.prog.cellsOf 42 = 3 := by kernel_rfl
theorem cellsB : Tryz.prog.cellsOf 4 = 1 := by kernel_rfl
theorem cellsI : Tryz.prog.cellsOf 3 = 1 := by kernel_rfl
theorem cellsL64 : Tryz.prog.cellsOf 2 = 1 := by kernel_rfl
theorem cellsStr : Tryz.prog.cellsOf 9 = 1 := by kernel_rfl

section
variable {H : Type} {enc : TypeId × Value → H}
end

end Go.Proofs.YthdjlaombbeagaaGreat

/-
  ARGUMENTS: a datom that came in; that it reads behind the call as before.
-/
namespace Go.Proofs.YthdjlaombbeagaaGreat
open Go.ChangeShapes Go.WideShapes Go.ChangeAt Go.RowKit Go.Joins Go.Deep

theorem cells9 : Tryz.prog.cellsOf 44 = 9 := by kernel_rfl
section
variable {H : Type} {enc : TypeId × Value → H}
set_option maxRecDepth 100000 in
/-- nine cells that read as a datom -/
theorem dat_cells {W : World} {n : Nat} {cs : List Value} {D : DataW H} {Pl : List MemPlace} (h : DataW.trod enc Tryz.prog W 0 (fun _ => true) true n 44 cs = some (D, Pl)) :
    ∃ d : Dat, cs = [.int .i64 d.e, .int .i64 d.a, .int .i64 d.k, .int .i64 d.m, .string d.s, .int .i64 d.t, .bool d.add, .int .i64 d.fr, .int .i64 d.til] ∧ DatOk d ∧ d.s.size ≤ maxLen ∧ d.s.size ≤ Rows.uptoBulk D := by
  obtain ⟨xs, n1, _, hx, hlen, hxl, hf⟩ := DataW.trod_struct Tryz.underlying44 h
  rw [cells9] at hlen
  match cs, hlen with
  | [c0, c1, c2, c3, c4, c5, c6, c7, c8], _ =>
    match xs, hxl with
    | [x0, x1, x2, x3, x4, x5, x6], _ =>
      have h0 : DataW.trod enc Tryz.prog W 0 (fun _ => true) true n1 2 ((([c0, c1, c2, c3, c4, c5, c6, c7, c8] : List Value).drop 0).take (Tryz.prog.cellsOf 2)) = some x0 := hf 0 _ rfl
      have h1 : DataW.trod enc Tryz.prog W 0 (fun _ => true) true n1 2 ((([c0, c1, c2, c3, c4, c5, c6, c7, c8] : List Value).drop 1).take (Tryz.prog.cellsOf 2)) = some x1 := hf 1 _ rfl
      have h2 : DataW.trod enc Tryz.prog W 0 (fun _ => true) true n1 42 ((([c0, c1, c2, c3, c4, c5, c6, c7, c8] : List Value).drop 2).take (Tryz.prog.cellsOf 42)) = some x2 := hf 2 _ rfl
      have h3 : DataW.trod enc Tryz.prog W 0 (fun _ => true) true n1 2 ((([c0, c1, c2, c3, c4, c5, c6, c7, c8] : List Value).drop 5).take (Tryz.prog.cellsOf 2)) = some x3 := hf 3 _ rfl
      have h4 : DataW.trod enc Tryz.prog W 0 (fun _ => true) true n1 4 ((([c0, c1, c2, c3, c4, c5, c6, c7, c8] : List Value).drop 6).take (Tryz.prog.cellsOf 4)) = some x4 := hf 4 _ rfl
      have h5 : DataW.trod enc Tryz.prog W 0 (fun _ => true) true n1 2 ((([c0, c1, c2, c3, c4, c5, c6, c7, c8] : List Value).drop 7).take (Tryz.prog.cellsOf 2)) = some x5 := hf 5 _ rfl
      have h6 : DataW.trod enc Tryz.prog W 0 (fun _ => true) true n1 2 ((([c0, c1, c2, c3, c4, c5, c6, c7, c8] : List Value).drop 8).take (Tryz.prog.cellsOf 2)) = some x6 := hf 6 _ rfl
      rw [cellsL64] at h0 h1 h3 h5 h6
      rw [cells3] at h2
      rw [cellsB] at h4
      obtain ⟨i0, e0, _, w0⟩ := DataW.trod_int Tryz.underlying2 h0
      obtain ⟨i1, e1, _, w1⟩ := DataW.trod_int Tryz.underlying2 h1
      obtain ⟨i3, e3, _, w3⟩ := DataW.trod_int Tryz.underlying2 h3
      obtain ⟨b4, e4, _⟩ := DataW.trod_bool Tryz.underlying4 h4
      obtain ⟨i5, e5, _, w5⟩ := DataW.trod_int Tryz.underlying2 h5
      obtain ⟨i6, e6, _, w6⟩ := DataW.trod_int Tryz.underlying2 h6
      obtain ⟨ys, n2, _, hy, _, hyl, hg⟩ := DataW.trod_struct Tryz.underlying42 h2
      match ys, hyl with
      | [y0, y1, y2], _ =>
        have g0 : DataW.trod enc Tryz.prog W 0 (fun _ => true) true n2 3 ((([c2, c3, c4] : List Value).drop 0).take (Tryz.prog.cellsOf 3)) = some y0 := hg 0 _ rfl
        rw [cellsI] at g0
        have g1 : DataW.trod enc Tryz.prog W 0 (fun _ => true) true n2 2 ((([c2, c3, c4] : List Value).drop 1).take (Tryz.prog.cellsOf 2)) = some y1 := hg 1 _ rfl
        rw [cellsL64] at g1
        have g2 : DataW.trod enc Tryz.prog W 0 (fun _ => true) true n2 9 ((([c2, c3, c4] : List Value).drop 2).take (Tryz.prog.cellsOf 9)) = some y2 := hg 2 _ rfl
        rw [cellsStr] at g2
        obtain ⟨k, f0, _, v0⟩ := DataW.trod_int Tryz.underlying3 g0
        obtain ⟨m, f1, _, v1⟩ := DataW.trod_int Tryz.underlying2 g1
        obtain ⟨s, f2, z2, v2⟩ := DataW.trod_string Tryz.underlying9 g2
        simp at e0 e1 e3 e4 e5 e6 f0 f1 f2
        subst e0 e1 e3 e4 e5 e6 f0 f1 f2
        refine ⟨⟨i0, i1, k, m, s, i3, b4, i5, i6⟩, rfl, ⟨i64_ok w0, i64_ok w1, i64_ok v0, i64_ok v1, i64_ok w3, i64_ok w5, i64_ok w6⟩, v2, ?_⟩
        have hD : D = .agg [x0.1, x1.1, x2.1, x3.1, x4.1, x5.1, x6.1] := by have := congrArg Prod.fst hx; simpa using this
        have hE : x2.1 = .agg [y0.1, y1.1, y2.1] := by have := congrArg Prod.fst hy; simpa using this
        have hs : s.data.toList.length = s.size := Array.length_toList
        rw [hD, hE, z2]
        simp only [Rows.uptoBulk, Rows.uptoBulkAll]
        omega
end
end Go.Proofs.YthdjlaombbeagaaGreat

/-
  ARGUMENTS: a slice of datoms that came in; that it reads behind the call as before.
-/
namespace Go.Proofs.YthdjlaombbeagaaGreat
open Go.ChangeShapes Go.WideShapes Go.ChangeAt Go.RowKit Go.Joins Go.Deep

section
variable {H : Type} {enc : TypeId × Value → H}
theorem dl_after {W W' : World} {v : Value} {d : DataW H} {p : List MemPlace} (h : DataW.Trod enc Tryz.prog W 0 (fun _ => true) true 22 v d p) (hb : Below W.heap.size W W') (hlt : ∀ x ∈ p, x.block < W.heap.size) :
    DataW.Trod enc Tryz.prog W' 0 (fun b => decide (b < W.heap.size)) true 22 v d p := Below.trod laidOut (by kernel_rfl) (of_decide_eq_true (by kernel_rfl)) h hb hlt
end
end Go.Proofs.YthdjlaombbeagaaGreat

/-
  ARGUMENTS: a slice of datoms that came in, bounded by its bulk.
-/
namespace Go.Proofs.YthdjlaombbeagaaGreat
open Go.ChangeShapes Go.WideShapes Go.ChangeAt Go.RowKit Go.Joins Go.Deep

section
variable {H : Type} {enc : TypeId × Value → H}
set_option maxRecDepth 100000 in
theorem open_dlB {W : World} {base : Nat} {v : Value} {d : DataW H} {p : List MemPlace} (hval : Value.okWide Tryz.prog W .any base 22 v) (h : DataW.Trod enc Tryz.prog W 0 (fun _ => true) true 22 v d p) :
    ∃ (A : Option Addr) (c : Nat) (l : List Dat), v = .slice A l.length c ∧ SlD W W.heap.size A l ∧ (∀ q ∈ l, DatOk q) ∧ (∀ q ∈ l, q.s.size ≤ Rows.uptoBulk d) ∧ (A = none → l.length = 0 ∧ c = 0) ∧ l.length ≤ Rows.uptoBulk d := by
  obtain ⟨a1, len, cap, rfl⟩ := okWide_slice Tryz.underlying22 hval
  obtain ⟨fuel, hf⟩ := h
  rcases open_slice Tryz.underlying22 hf with ⟨hcs, _⟩ | ⟨a, len', cap', m, n, D, Pl, hcs, _, hl, hcm, hm, hx, hi⟩
  · simp [Value.cells] at hcs
    obtain ⟨rfl, rfl, rfl⟩ := hcs
    exact ⟨none, 0, [], rfl, fun h => absurd rfl h, fun q hq => (by cases hq), fun q hq => (by cases hq), fun _ => ⟨rfl, rfl⟩, Nat.zero_le _⟩
  · simp [Value.cells] at hcs
    obtain ⟨rfl, rfl, rfl⟩ := hcs
    have hml : len ≤ m := by rw [hm]; split <;> omega
    have hd : d = .slice ((List.range len).map D) ((List.range (m - len)).map fun j => D (len + j)) := by have := congrArg Prod.fst hx; simpa using this
    have hbk : Rows.uptoBulkAll ((List.range len).map D) + 1 ≤ Rows.uptoBulk d := by rw [hd]; simp only [Rows.uptoBulk]; omega
    have hlen : len ≤ Rows.uptoBulkAll ((List.range len).map D) := by have := bulk_len ((List.range len).map D); simpa using this
    have each : ∀ i, i < len → ∃ q : Dat, (∀ j u, (cellsD q)[j]? = some u → W.cell? ((a.add (i * 9)).add j) = some u) ∧ DatOk q ∧ q.s.size ≤ Rows.uptoBulk d := fun i hi' => by
      obtain ⟨cs, hc, ht⟩ := hi i (by omega)
      rw [cells9] at hc
      obtain ⟨q, rfl, hok, _, hsz⟩ := dat_cells ht
      obtain ⟨_, _, hat⟩ := World.cells?_some hc
      refine ⟨q, fun j u hu => ?_, hok, ?_⟩
      · have hj : j < 9 := (List.getElem?_eq_some_iff.1 hu).1
        rw [hat j hj]; exact hu
      · have := bulk_mem (d := D i) (l := (List.range len).map D) (List.mem_map.2 ⟨i, by simpa using hi', rfl⟩)
        omega
    have hch : ∃ f : Nat → Dat, ∀ i, i < len → (∀ j u, (cellsD (f i))[j]? = some u → W.cell? ((a.add (i * 9)).add j) = some u) ∧ DatOk (f i) ∧ (f i).s.size ≤ Rows.uptoBulk d := by
      classical
      refine ⟨fun i => if h : i < len then (each i h).choose else ⟨0, 0, 0, 0, ⟨#[]⟩, 0, false, 0, 0⟩, fun i h => ?_⟩
      simp only [h, dif_pos]
      exact (each i h).choose_spec
    obtain ⟨f, hfp⟩ := hch
    have hlf : ((List.range len).map f).length = len := by simp
    refine ⟨some a, cap, (List.range len).map f, by rw [hlf], fun hne => ?_, fun q hq => ?_, fun q hq => ?_, (fun h => by cases h), by rw [hlf]; omega⟩
    · have h0 : 0 < len := by
        rcases Nat.eq_zero_or_pos len with e | e
        · exact absurd (by rw [e]; rfl) hne
        · exact e
      obtain ⟨ab, ao, spot⟩ := a
      have hc0 := (hfp 0 h0).1 0 _ rfl
      have hspot : spot = none := by simpa [Addr.add] using World.cell?_spot hc0
      subst hspot
      have hb := cell_lt hc0
      rw [add_block, add_block] at hb
      refine ⟨ab, ao, rfl, hb, fun j q hq => ?_⟩
      have hj : j < len := by have := (List.getElem?_eq_some_iff.1 hq).1; rwa [hlf] at this
      have hqe : f j = q := by
        rw [List.getElem?_map, List.getElem?_range hj] at hq
        simpa using hq
      have hcc := (hfp j hj).1
      rw [hqe] at hcc
      have hadd : ∀ i, ((⟨ab, ao, none⟩ : Addr).add (j * 9)).add i = ⟨ab, ao + j * 9 + i, none⟩ := fun i => by
        unfold Addr.add
        split <;> split <;> simp_all <;> omega
      intro i hi9
      have hi2 : i < (cellsD q).length := hi9
      have := hcc i _ (List.getElem?_eq_getElem hi2)
      rw [hadd] at this
      rw [this, List.getElem?_eq_getElem hi2]
    · obtain ⟨i, hi', rfl⟩ := List.mem_map.1 hq
      exact (hfp i (by simpa using hi')).2.1
    · obtain ⟨i, hi', rfl⟩ := List.mem_map.1 hq
      exact (hfp i (by simpa using hi')).2.2
end
end Go.Proofs.YthdjlaombbeagaaGreat
