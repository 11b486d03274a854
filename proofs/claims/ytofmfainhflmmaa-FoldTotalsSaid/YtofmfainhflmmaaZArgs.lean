/-
  ARGUMENTS: names, rows that came in; that they read behind the call as before.
-/
import Derived.Test.YtofmfainhflmmaaRows
import Derived.Test.YtofmfainhflmmaaZB
import Derived.ProofKit
import Derived.OpenShut
import Derived.ShutString
import Derived.ChangeOld
import Derived.ChangeSlices
import Derived.Carry
import Derived.Deep.Slices
import Derived.Lib.SmallJoins
namespace Go.Proofs.Ytofmfainhflmmaa
open Go.ChangeShapes Go.WideShapes Go.ChangeAt Go.RowKit Go.Joins Go.Deep

theorem laidOut : laidOutB Try.prog = true := by kernel_rfl
theorem cellsVl : Try.prog.cellsOf 24 = 3 := by kernel_rfl
theorem cellsI : Try.prog.cellsOf 3 = 1 := by kernel_rfl
theorem cellsL64 : Try.prog.cellsOf 2 = 1 := by kernel_rfl
theorem cellsStr : Try.prog.cellsOf 9 = 1 := by kernel_rfl
theorem cellsRow : Try.prog.cellsOf 46 = 1 := by kernel_rfl
theorem cell_lt {W : World} {a : Addr} {v : Value} (h : W.cell? a = some v) : a.block < W.heap.size := by
  unfold World.cell? at h
  cases hb : W.heap[a.block]? with
  | none => rw [hb] at h; cases h
  | some o => exact (Array.getElem?_eq_some_iff.1 hb).1
theorem add_block (a : Addr) (j : Nat) : (a.add j).block = a.block := by unfold Addr.add; split <;> rfl
section
variable {H : Type} {enc : TypeId × Value → H}
set_option maxRecDepth 100000 in
/-- three cells that read as a value -/
theorem vl_cells {W : World} {n : Nat} {cs : List Value} {D : DataW H} {Pl : List MemPlace} (h : DataW.trod enc Try.prog W 0 (fun _ => true) true n 24 cs = some (D, Pl)) :
    ∃ v : Vl, cs = [.int .i64 v.1, .int .i64 v.2.1, .string v.2.2] ∧ v.2.2.size ≤ maxLen ∧ (-9223372036854775808 ≤ v.2.1 ∧ v.2.1 ≤ 9223372036854775807) := by
  obtain ⟨ys, n2, _, hy, hlen, hyl, hg⟩ := DataW.trod_struct Try.underlying24 h
  rw [cellsVl] at hlen
  match cs, hlen with
  | [c2, c3, c4], _ =>
    match ys, hyl with
    | [y0, y1, y2], _ =>
      have g0 : DataW.trod enc Try.prog W 0 (fun _ => true) true n2 3 ((([c2, c3, c4] : List Value).drop 0).take (Try.prog.cellsOf 3)) = some y0 := hg 0 _ rfl
      rw [cellsI] at g0
      have g1 : DataW.trod enc Try.prog W 0 (fun _ => true) true n2 2 ((([c2, c3, c4] : List Value).drop 1).take (Try.prog.cellsOf 2)) = some y1 := hg 1 _ rfl
      rw [cellsL64] at g1
      have g2 : DataW.trod enc Try.prog W 0 (fun _ => true) true n2 9 ((([c2, c3, c4] : List Value).drop 2).take (Try.prog.cellsOf 9)) = some y2 := hg 2 _ rfl
      rw [cellsStr] at g2
      obtain ⟨k, f0, _, v0⟩ := DataW.trod_int Try.underlying3 g0
      obtain ⟨m, f1, _, v1⟩ := DataW.trod_int Try.underlying2 g1
      have hm : -9223372036854775808 ≤ m ∧ m ≤ 9223372036854775807 := by
        unfold Lit.wf at v1
        rw [Bool.and_eq_true, decide_eq_true_eq, decide_eq_true_eq] at v1
        exact v1
      obtain ⟨s, f2, _, v2⟩ := DataW.trod_string Try.underlying9 g2
      simp at f0 f1 f2
      subst f0 f1 f2
      exact ⟨(k, m, s), rfl, v2, hm⟩
set_option maxRecDepth 100000 in
/-- a cell that reads as a row -/
theorem row_cell {W : World} {n : Nat} {cs : List Value} {d : DataW H} {Pl : List MemPlace} (hf : DataW.trod enc Try.prog W 0 (fun _ => true) true n 46 cs = some (d, Pl)) : ∃ r : Rw, cs = [cellR r] ∧ RwOk W W.heap.size r := by
  rcases open_slice Try.underlying46 hf with ⟨hcs, _⟩ | ⟨a, len, cap, m, n, D, Pl, hcs, _, hl, hcm, hm, _, hi⟩
  · exact ⟨⟨none, 0, []⟩, hcs, fun h => absurd rfl h, fun _ => ⟨rfl, rfl⟩, Nat.zero_le _, Nat.zero_le _, fun v hv => by cases hv⟩
  · have hml : len ≤ m := by rw [hm]; split <;> omega
    have each : ∀ i, i < len → ∃ q : Vl, (∀ j u, ([Value.int .i64 q.1, .int .i64 q.2.1, .string q.2.2] : List Value)[j]? = some u → W.cell? ((a.add (i * 3)).add j) = some u) ∧ q.2.2.size ≤ maxLen ∧ (-9223372036854775808 ≤ q.2.1 ∧ q.2.1 ≤ 9223372036854775807) := fun i hi' => by
      obtain ⟨cs, hc, ht⟩ := hi i (by omega)
      rw [cellsVl] at hc
      obtain ⟨q, rfl, hsz⟩ := vl_cells ht
      obtain ⟨_, _, hat⟩ := World.cells?_some hc
      refine ⟨q, fun j u hu => ?_, hsz⟩
      have hj : j < 3 := (List.getElem?_eq_some_iff.1 hu).1
      rw [hat j hj]; exact hu
    have hch : ∃ f : Nat → Vl, ∀ i, i < len → (∀ j u, ([Value.int .i64 (f i).1, .int .i64 (f i).2.1, .string (f i).2.2] : List Value)[j]? = some u → W.cell? ((a.add (i * 3)).add j) = some u) ∧ (f i).2.2.size ≤ maxLen ∧ (-9223372036854775808 ≤ (f i).2.1 ∧ (f i).2.1 ≤ 9223372036854775807) := by
      classical
      refine ⟨fun i => if h : i < len then (each i h).choose else (0, 0, ⟨#[]⟩), fun i h => ?_⟩
      simp only [h, dif_pos]
      exact (each i h).choose_spec
    obtain ⟨f, hfp⟩ := hch
    have hlf : ((List.range len).map f).length = len := by simp
    refine ⟨⟨some a, cap, (List.range len).map f⟩, by rw [hcs]; unfold cellR; simp, ⟨fun hne => ?_, (fun e => by cases e), by simp only [hlf]; exact hl, hcm, fun q hq => ?_⟩⟩
    · have h0 : 0 < len := by
        rcases Nat.eq_zero_or_pos len with e | e
        · exact absurd (by rw [e]; rfl) hne
        · exact e
      obtain ⟨ab, ao, spot⟩ := a
      have hc0 := (hfp 0 h0).1 0 _ rfl
      have hspot : spot = none := by simpa [Addr.add] using World.cell?_spot hc0
      subst hspot
      have hb := cell_lt hc0
      rw [add_block, add_block] at hb
      refine ⟨ab, ao, rfl, hb, fun j q hq => ?_⟩
      have hj : j < len := by have := (List.getElem?_eq_some_iff.1 hq).1; rwa [hlf] at this
      have hqe : f j = q := by
        rw [List.getElem?_map, List.getElem?_range hj] at hq
        simpa using hq
      have hcc := (hfp j hj).1
      rw [hqe] at hcc
      have hadd : ∀ i, ((⟨ab, ao, none⟩ : Addr).add (j * 3)).add i = ⟨ab, ao + j * 3 + i, none⟩ := fun i => by
        unfold Addr.add
        split <;> split <;> simp_all <;> omega
      refine ⟨?_, ?_, ?_⟩
      · have := hcc 0 _ rfl; rwa [hadd] at this
      · have := hcc 1 _ rfl; rwa [hadd] at this
      · have := hcc 2 _ rfl; rwa [hadd] at this
    · obtain ⟨i, hi', rfl⟩ := List.mem_map.1 hq
      exact (hfp i (by simpa using hi')).2
/-- one-cell elements at an address -/
theorem sl1_of {α : Type} {e : α → Value} {W : World} {a : Addr} {len : Nat} {f : Nat → α} (hfp : ∀ i, i < len → W.cell? (a.add (i * 1)) = some (e (f i))) : Sl1 e W W.heap.size (some a) ((List.range len).map f) := fun hne => by
  have hlf : ((List.range len).map f).length = len := by simp
  have h0 : 0 < len := by
    rcases Nat.eq_zero_or_pos len with e | e
    · exact absurd (by rw [e]; rfl) hne
    · exact e
  obtain ⟨ab, ao, spot⟩ := a
  have hc0 := hfp 0 h0
  have hspot : spot = none := by simpa [Addr.add] using World.cell?_spot hc0
  subst hspot
  have hb := cell_lt hc0
  rw [add_block] at hb
  refine ⟨ab, ao, rfl, hb, fun j q hq => ?_⟩
  have hj : j < len := by have := (List.getElem?_eq_some_iff.1 hq).1; rwa [hlf] at this
  have hqe : f j = q := by
    rw [List.getElem?_map, List.getElem?_range hj] at hq
    simpa using hq
  have hcc := hfp j hj
  rw [hqe, addI, Nat.mul_one] at hcc
  exact hcc
set_option maxRecDepth 100000 in
/-- a cell that reads as rows -/
theorem rows_cell {W : World} {n : Nat} {cs : List Value} {d : DataW H} {Pl : List MemPlace} (hf : DataW.trod enc Try.prog W 0 (fun _ => true) true n 32 cs = some (d, Pl)) :
    ∃ (A : Option Addr) (c : Nat) (R : List Rw), cs = [.slice A R.length c] ∧ SlR W W.heap.size A R ∧ R.length ≤ c ∧ c ≤ maxLen ∧ (A = none → R.length = 0 ∧ c = 0) := by
  rcases open_slice Try.underlying32 hf with ⟨hcs, _⟩ | ⟨a, len, cap, m, n, D, Pl, hcs, _, hl, hcm, hm, _, hi⟩
  · exact ⟨none, 0, [], hcs, ⟨sl1_nil, fun r hr => by cases hr⟩, Nat.zero_le _, Nat.zero_le _, fun _ => ⟨rfl, rfl⟩⟩
  · have hml : len ≤ m := by rw [hm]; split <;> omega
    have each : ∀ i, i < len → ∃ q : Rw, W.cell? (a.add (i * 1)) = some (cellR q) ∧ RwOk W W.heap.size q := fun i hi' => by
      obtain ⟨cs, hc, ht⟩ := hi i (by omega)
      rw [cellsRow] at hc
      obtain ⟨q, rfl, hok⟩ := row_cell ht
      obtain ⟨_, _, hat⟩ := World.cells?_some hc
      refine ⟨q, ?_, hok⟩
      have h0 := hat 0 (by simp)
      have e : (a.add (i * 1)).add 0 = a.add (i * 1) := by
        obtain ⟨ab, ao, sp⟩ := a
        unfold Addr.add
        split <;> simp_all
      rw [e] at h0
      exact h0
    have hch : ∃ f : Nat → Rw, ∀ i, i < len → W.cell? (a.add (i * 1)) = some (cellR (f i)) ∧ RwOk W W.heap.size (f i) := by
      classical
      refine ⟨fun i => if h : i < len then (each i h).choose else ⟨none, 0, []⟩, fun i h => ?_⟩
      simp only [h, dif_pos]
      exact (each i h).choose_spec
    obtain ⟨f, hfp⟩ := hch
    have hlf : ((List.range len).map f).length = len := by simp
    refine ⟨some a, cap, (List.range len).map f, by rw [hcs, hlf], ⟨sl1_of fun i hi => (hfp i hi).1, fun q hq => ?_⟩, by rw [hlf]; exact hl, hcm, fun e => by cases e⟩
    obtain ⟨i, hi', rfl⟩ := List.mem_map.1 hq
    exact (hfp i (by simpa using hi')).2
set_option maxRecDepth 100000 in
/-- a cell that reads as names -/
theorem cols_cell {W : World} {n : Nat} {cs : List Value} {d : DataW H} {Pl : List MemPlace} (hf : DataW.trod enc Try.prog W 0 (fun _ => true) true n 31 cs = some (d, Pl)) :
    ∃ (A : Option Addr) (c : Nat) (l : List ByteArray), cs = [.slice A l.length c] ∧ SlC W W.heap.size A l ∧ l.length ≤ c ∧ c ≤ maxLen ∧ (A = none → l.length = 0 ∧ c = 0) := by
  rcases open_slice Try.underlying31 hf with ⟨hcs, _⟩ | ⟨a, len, cap, m, n, D, Pl, hcs, _, hl, hcm, hm, _, hi⟩
  · exact ⟨none, 0, [], hcs, sl1_nil, Nat.zero_le _, Nat.zero_le _, fun _ => ⟨rfl, rfl⟩⟩
  · have hml : len ≤ m := by rw [hm]; split <;> omega
    have each : ∀ i, i < len → ∃ q : ByteArray, W.cell? (a.add (i * 1)) = some (strV q) := fun i hi' => by
      obtain ⟨cs, hc, ht⟩ := hi i (by omega)
      rw [cellsStr] at hc
      obtain ⟨q, rfl, _, _⟩ := DataW.trod_string Try.underlying9 ht
      obtain ⟨_, _, hat⟩ := World.cells?_some hc
      refine ⟨q, ?_⟩
      have h0 := hat 0 (by simp)
      have e : (a.add (i * 1)).add 0 = a.add (i * 1) := by
        obtain ⟨ab, ao, sp⟩ := a
        unfold Addr.add
        split <;> simp_all
      rw [e] at h0
      exact h0
    have hch : ∃ f : Nat → ByteArray, ∀ i, i < len → W.cell? (a.add (i * 1)) = some (strV (f i)) := by
      classical
      refine ⟨fun i => if h : i < len then (each i h).choose else ⟨#[]⟩, fun i h => ?_⟩
      simp only [h, dif_pos]
      exact (each i h).choose_spec
    obtain ⟨f, hfp⟩ := hch
    have hlf : ((List.range len).map f).length = len := by simp
    exact ⟨some a, cap, (List.range len).map f, by rw [hcs, hlf], sl1_of hfp, by rw [hlf]; exact hl, hcm, fun e => by cases e⟩
set_option maxRecDepth 100000 in
theorem open_rows {W : World} {base : Nat} {v : Value} {d : DataW H} {p : List MemPlace} (hval : Value.okWide Try.prog W .any base 32 v) (h : DataW.Trod enc Try.prog W 0 (fun _ => true) true 32 v d p) :
    ∃ (A : Option Addr) (c : Nat) (R : List Rw), v = .slice A R.length c ∧ SlR W W.heap.size A R ∧ R.length ≤ c ∧ c ≤ maxLen ∧ (A = none → R.length = 0 ∧ c = 0) := by
  obtain ⟨a1, len, cap, rfl⟩ := okWide_slice Try.underlying32 hval
  obtain ⟨fuel, hf⟩ := h
  obtain ⟨A, c, R, hcs, h1, h2, h3, h4⟩ := rows_cell hf
  simp [Value.cells] at hcs
  obtain ⟨rfl, rfl, rfl⟩ := hcs
  exact ⟨_, _, _, rfl, h1, h2, h3, h4⟩
set_option maxRecDepth 100000 in
theorem open_cols {W : World} {base : Nat} {v : Value} {d : DataW H} {p : List MemPlace} (hval : Value.okWide Try.prog W .any base 31 v) (h : DataW.Trod enc Try.prog W 0 (fun _ => true) true 31 v d p) :
    ∃ (A : Option Addr) (c : Nat) (l : List ByteArray), v = .slice A l.length c ∧ SlC W W.heap.size A l ∧ l.length ≤ c ∧ c ≤ maxLen ∧ (A = none → l.length = 0 ∧ c = 0) := by
  obtain ⟨a1, len, cap, rfl⟩ := okWide_slice Try.underlying31 hval
  obtain ⟨fuel, hf⟩ := h
  obtain ⟨A, c, R, hcs, h1, h2, h3, h4⟩ := cols_cell hf
  simp [Value.cells] at hcs
  obtain ⟨rfl, rfl, rfl⟩ := hcs
  exact ⟨_, _, _, rfl, h1, h2, h3, h4⟩
set_option maxRecDepth 100000 in
theorem rows_after {W W' : World} {v : Value} {d : DataW H} {p : List MemPlace} (h : DataW.Trod enc Try.prog W 0 (fun _ => true) true 32 v d p) (hb : Below W.heap.size W W') (hlt : ∀ x ∈ p, x.block < W.heap.size) :
    DataW.Trod enc Try.prog W' 0 (fun b => decide (b < W.heap.size)) true 32 v d p := Below.trod laidOut (by kernel_rfl) (of_decide_eq_true (by kernel_rfl)) h hb hlt
set_option maxRecDepth 100000 in
theorem cols_after {W W' : World} {v : Value} {d : DataW H} {p : List MemPlace} (h : DataW.Trod enc Try.prog W 0 (fun _ => true) true 31 v d p) (hb : Below W.heap.size W W') (hlt : ∀ x ∈ p, x.block < W.heap.size) :
    DataW.Trod enc Try.prog W' 0 (fun b => decide (b < W.heap.size)) true 31 v d p := Below.trod laidOut (by kernel_rfl) (of_decide_eq_true (by kernel_rfl)) h hb hlt
end
end Go.Proofs.Ytofmfainhflmmaa
