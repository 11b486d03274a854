/-
  ARGUMENTS: a slice of values that came in; that it reads behind the call as before.
-/
import Derived.Test.YtlblbghlchedpaaDoorRows
import Derived.Test.YtlblbghlchedpaaDoorCxCall
import Derived.ProofKit
import Derived.OpenShut
import Derived.ShutString
import Derived.ChangeOld
import Derived.ChangeSlices
import Derived.Carry
import Derived.Deep.Slices
import Derived.Lib.SmallJoins
namespace Go.Proofs.YtlblbghlchedpaaDoor
open Go.ChangeShapes Go.WideShapes Go.ChangeAt Go.RowKit Go.Joins Go.Deep

theorem laidOut : laidOutB Tryd.prog = true := by kernel_rfl
theorem cells3 : Tryd.prog.cellsOf 43 = 3 := by kernel_rfl
theorem cellsI : Tryd.prog.cellsOf 3 = 1 := by kernel_rfl
theorem cellsL64 : Tryd.prog.cellsOf 2 = 1 := by kernel_rfl
theorem cellsStr : Tryd.prog.cellsOf 9 = 1 := by kernel_rfl
theorem cellsB : Tryd.prog.cellsOf 4 = 1 := by kernel_rfl
theorem cell_lt {W : World} {a : Addr} {v : Value} (h : W.cell? a = some v) : a.block < W.heap.size := by
  unfold World.cell? at h
  cases hb : W.heap[a.block]? with
  | none => rw [hb] at h; cases h
  | some o => exact (Array.getElem?_eq_some_iff.1 hb).1
theorem add_block (a : Addr) (j : Nat) : (a.add j).block = a.block := by unfold Addr.add; split <;> rfl
section
variable {H : Type} {enc : TypeId × Value → H}
set_option maxRecDepth 100000 in
/-- three cells that read as a value -/
theorem vl_cells {W : World} {n : Nat} {cs : List Value} {D : DataW H} {Pl : List MemPlace} (h : DataW.trod enc Tryd.prog W 0 (fun _ => true) true n 43 cs = some (D, Pl)) :
    ∃ v : Cv, cs = [.int .i64 v.1, .int .i64 v.2.1, .string v.2.2] ∧ v.2.2.size ≤ maxLen := by
  obtain ⟨ys, n2, _, hy, hlen, hyl, hg⟩ := DataW.trod_struct Tryd.underlying43 h
  rw [cells3] at hlen
  match cs, hlen with
  | [c2, c3, c4], _ =>
    match ys, hyl with
    | [y0, y1, y2], _ =>
      have g0 : DataW.trod enc Tryd.prog W 0 (fun _ => true) true n2 3 ((([c2, c3, c4] : List Value).drop 0).take (Tryd.prog.cellsOf 3)) = some y0 := hg 0 _ rfl
      rw [cellsI] at g0
      have g1 : DataW.trod enc Tryd.prog W 0 (fun _ => true) true n2 2 ((([c2, c3, c4] : List Value).drop 1).take (Tryd.prog.cellsOf 2)) = some y1 := hg 1 _ rfl
      rw [cellsL64] at g1
      have g2 : DataW.trod enc Tryd.prog W 0 (fun _ => true) true n2 9 ((([c2, c3, c4] : List Value).drop 2).take (Tryd.prog.cellsOf 9)) = some y2 := hg 2 _ rfl
      rw [cellsStr] at g2
      obtain ⟨k, f0, _, v0⟩ := DataW.trod_int Tryd.underlying3 g0
      obtain ⟨m, f1, _, v1⟩ := DataW.trod_int Tryd.underlying2 g1
      obtain ⟨s, f2, _, v2⟩ := DataW.trod_string Tryd.underlying9 g2
      simp at f0 f1 f2
      subst f0 f1 f2
      exact ⟨(k, m, s), rfl, v2⟩
set_option maxRecDepth 100000 in
theorem open_vl {W : World} {base : Nat} {v : Value} {d : DataW H} {p : List MemPlace} (hval : Value.okWide Tryd.prog W .any base 27 v) (h : DataW.Trod enc Tryd.prog W 0 (fun _ => true) true 27 v d p) :
    ∃ (A : Option Addr) (c : Nat) (l : List Cv), v = .slice A l.length c ∧ SlX W W.heap.size A l ∧ (∀ q ∈ l, q.2.2.size ≤ maxLen) ∧ l.length ≤ c ∧ c ≤ maxLen := by
  obtain ⟨a1, len, cap, rfl⟩ := okWide_slice Tryd.underlying27 hval
  obtain ⟨fuel, hf⟩ := h
  rcases open_slice Tryd.underlying27 hf with ⟨hcs, _⟩ | ⟨a, len', cap', m, n, D, Pl, hcs, _, hl, hcm, hm, _, hi⟩
  · simp [Value.cells] at hcs
    obtain ⟨rfl, rfl, rfl⟩ := hcs
    exact ⟨none, 0, [], rfl, fun h => absurd rfl h, fun q hq => (by cases hq), Nat.zero_le _, Nat.zero_le _⟩
  · simp [Value.cells] at hcs
    obtain ⟨rfl, rfl, rfl⟩ := hcs
    have hml : len ≤ m := by rw [hm]; split <;> omega
    have each : ∀ i, i < len → ∃ q : Cv, (∀ j u, ([Value.int .i64 q.1, .int .i64 q.2.1, .string q.2.2] : List Value)[j]? = some u → W.cell? ((a.add (i * 3)).add j) = some u) ∧ q.2.2.size ≤ maxLen := fun i hi' => by
      obtain ⟨cs, hc, ht⟩ := hi i (by omega)
      rw [cells3] at hc
      obtain ⟨q, rfl, hsz⟩ := vl_cells ht
      obtain ⟨_, _, hat⟩ := World.cells?_some hc
      refine ⟨q, fun j u hu => ?_, hsz⟩
      have hj : j < 3 := (List.getElem?_eq_some_iff.1 hu).1
      rw [hat j hj]; exact hu
    have hch : ∃ f : Nat → Cv, ∀ i, i < len → (∀ j u, ([Value.int .i64 (f i).1, .int .i64 (f i).2.1, .string (f i).2.2] : List Value)[j]? = some u → W.cell? ((a.add (i * 3)).add j) = some u) ∧ (f i).2.2.size ≤ maxLen := by
      classical
      refine ⟨fun i => if h : i < len then (each i h).choose else (0, 0, ⟨#[]⟩), fun i h => ?_⟩
      simp only [h, dif_pos]
      exact (each i h).choose_spec
    obtain ⟨f, hfp⟩ := hch
    have hlf : ((List.range len).map f).length = len := by simp
    refine ⟨some a, cap, (List.range len).map f, by rw [hlf], fun hne => ?_, fun q hq => ?_, by rw [hlf]; exact hl, hcm⟩
    · have h0 : 0 < len := by
        rcases Nat.eq_zero_or_pos len with e | e
        · exact absurd (by rw [e]; rfl) hne
        · exact e
      obtain ⟨ab, ao, spot⟩ := a
      have hc0 := (hfp 0 h0).1 0 _ rfl
      have hspot : spot = none := by simpa [Addr.add] using World.cell?_spot hc0
      subst hspot
      have hb := cell_lt hc0
      rw [add_block, add_block] at hb
      refine ⟨ab, ao, rfl, hb, fun j q hq => ?_⟩
      have hj : j < len := by have := (List.getElem?_eq_some_iff.1 hq).1; rwa [hlf] at this
      have hqe : f j = q := by
        rw [List.getElem?_map, List.getElem?_range hj] at hq
        simpa using hq
      have hcc := (hfp j hj).1
      rw [hqe] at hcc
      have hadd : ∀ i, ((⟨ab, ao, none⟩ : Addr).add (j * 3)).add i = ⟨ab, ao + j * 3 + i, none⟩ := fun i => by
        unfold Addr.add
        split <;> split <;> simp_all <;> omega
      refine ⟨?_, ?_, ?_⟩
      · have := hcc 0 _ rfl; rwa [hadd] at this
      · have := hcc 1 _ rfl; rwa [hadd] at this
      · have := hcc 2 _ rfl; rwa [hadd] at this
    · obtain ⟨i, hi', rfl⟩ := List.mem_map.1 hq
      exact (hfp i (by simpa using hi')).2
theorem vl_after {W W' : World} {v : Value} {d : DataW H} {p : List MemPlace} (h : DataW.Trod enc Tryd.prog W 0 (fun _ => true) true 27 v d p) (hb : Below W.heap.size W W') (hlt : ∀ x ∈ p, x.block < W.heap.size) :
    DataW.Trod enc Tryd.prog W' 0 (fun b => decide (b < W.heap.size)) true 27 v d p := Below.trod laidOut (by kernel_rfl) (of_decide_eq_true (by kernel_rfl)) h hb hlt
end
end Go.Proofs.YtlblbghlchedpaaDoor
