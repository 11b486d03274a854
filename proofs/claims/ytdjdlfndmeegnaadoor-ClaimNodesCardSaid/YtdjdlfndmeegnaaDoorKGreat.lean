/-
  CONTRACT: great.
-/
import Derived.Test.YtdjdlfndmeegnaaDoorKEnt
namespace Go.Proofs.YtdjdlfndmeegnaaDoor
open Go.RowKit
def szs (f : Fm) : List Nat := [f.a.size, f.e.nm.size, f.e.vs.size, f.v.vs.size, f.v.e.nm.size, f.v.e.vs.size, f.old.vs.size, f.old.e.nm.size, f.old.e.vs.size]
def greatB (f : Fm) : Bool := (szs f).any fun n => decide (1100 < n)
theorem greatB_no {f : Fm} (h : greatB f = false) : FmS f := by
  have h2 : ∀ n ∈ szs f, n ≤ 1100 := fun n hn => by
    have := (List.any_eq_false.1 h) n hn
    simpa using this
  have hh := fun i n (e : (szs f)[i]? = some n) => h2 n (List.mem_of_getElem? e)
  exact ⟨hh 0 _ rfl, ⟨hh 1 _ rfl, hh 2 _ rfl⟩, ⟨hh 3 _ rfl, hh 4 _ rfl, hh 5 _ rfl⟩, hh 6 _ rfl, hh 7 _ rfl, hh 8 _ rfl⟩
theorem szs_cell (f : Fm) (j n : Nat) (h : (szs f)[j]? = some n) : (#[.int .i64 (f.a.size : Int), .int .i64 (f.e.nm.size : Int), .int .i64 (f.e.vs.size : Int), .int .i64 (f.v.vs.size : Int), .int .i64 (f.v.e.nm.size : Int), .int .i64 (f.v.e.vs.size : Int), .int .i64 (f.old.vs.size : Int), .int .i64 (f.old.e.nm.size : Int), .int .i64 (f.old.e.vs.size : Int)] : Array Value)[j]? = some (.int .i64 (n : Int)) := by
  have e : (#[.int .i64 (f.a.size : Int), .int .i64 (f.e.nm.size : Int), .int .i64 (f.e.vs.size : Int), .int .i64 (f.v.vs.size : Int), .int .i64 (f.v.e.nm.size : Int), .int .i64 (f.v.e.vs.size : Int), .int .i64 (f.old.vs.size : Int), .int .i64 (f.old.e.nm.size : Int), .int .i64 (f.old.e.vs.size : Int)] : Array Value) = ((szs f).map fun n : Nat => Value.int .i64 (n : Int)).toArray := rfl
  rw [e, List.getElem?_toArray, List.getElem?_map, h]
  rfl
theorem greatB_yes {f : Fm} {j n : Nat} (h : (szs f)[j]? = some n) (hn : 1100 < n) : greatB f = true := List.any_eq_true.2 ⟨n, List.mem_of_getElem? h, decide_eq_true hn⟩
theorem greatB_none {f : Fm} (h : ∀ j n : Nat, (szs f)[j]? = some n → n ≤ 1100) : greatB f = false := by
  refine List.any_eq_false.2 fun n hn => ?_
  obtain ⟨j, hj⟩ := List.mem_iff_getElem?.1 hn
  have := h j n hj
  simpa using this

set_option maxRecDepth 100000 in
set_option maxHeartbeats 1000000 in
/-- CONTRACT: great. -/
theorem great_any (f : Fm) (w : World) : Calls Tryd.prog 5 #[.agg #[.int .i64 f.op, .int .i64 f.e.k, .int .i64 f.e.n, .string f.e.nm, .int .i64 f.e.vk, .int .i64 f.e.vn, .string f.e.vs, .string f.a, .bool f.v.ent, .int .i64 f.v.vk, .int .i64 f.v.vn, .string f.v.vs, .int .i64 f.v.e.k, .int .i64 f.v.e.n, .string f.v.e.nm, .int .i64 f.v.e.vk, .int .i64 f.v.e.vn, .string f.v.e.vs, .bool f.old.ent, .int .i64 f.old.vk, .int .i64 f.old.vn, .string f.old.vs, .int .i64 f.old.e.k, .int .i64 f.old.e.n, .string f.old.e.nm, .int .i64 f.old.e.vk, .int .i64 f.old.e.vn, .string f.old.e.vs, .int .i64 f.fr, .int .i64 f.til]] w fun e w' => e = .returned (.bool (greatB f)) ∧ Below w.heap.size w w' := by
  obtain ⟨w0, hw0⟩ : ∃ w0, w.alloc (.cells #[.int .i64 f.op, .int .i64 f.e.k, .int .i64 f.e.n, .string f.e.nm, .int .i64 f.e.vk, .int .i64 f.e.vn, .string f.e.vs, .string f.a, .bool f.v.ent, .int .i64 f.v.vk, .int .i64 f.v.vn, .string f.v.vs, .int .i64 f.v.e.k, .int .i64 f.v.e.n, .string f.v.e.nm, .int .i64 f.v.e.vk, .int .i64 f.v.e.vn, .string f.v.e.vs, .bool f.old.ent, .int .i64 f.old.vk, .int .i64 f.old.vn, .string f.old.vs, .int .i64 f.old.e.k, .int .i64 f.old.e.n, .string f.old.e.nm, .int .i64 f.old.e.vk, .int .i64 f.old.e.vn, .string f.old.e.vs, .int .i64 f.fr, .int .i64 f.til] 29) = w0 := ⟨_, rfl⟩
  have HX0 : Hid (Blk w0 w.heap.size #[.int .i64 f.op, .int .i64 f.e.k, .int .i64 f.e.n, .string f.e.nm, .int .i64 f.e.vk, .int .i64 f.e.vn, .string f.e.vs, .string f.a, .bool f.v.ent, .int .i64 f.v.vk, .int .i64 f.v.vn, .string f.v.vs, .int .i64 f.v.e.k, .int .i64 f.v.e.n, .string f.v.e.nm, .int .i64 f.v.e.vk, .int .i64 f.v.e.vn, .string f.v.e.vs, .bool f.old.ent, .int .i64 f.old.vk, .int .i64 f.old.vn, .string f.old.vs, .int .i64 f.old.e.k, .int .i64 f.old.e.n, .string f.old.e.nm, .int .i64 f.old.e.vk, .int .i64 f.old.e.vn, .string f.old.e.vs, .int .i64 f.fr, .int .i64 f.til] 29) := by rw [← hw0]; exact Blk.new _ _ _
  have HB0 : Hid (Below w.heap.size w w0) := by rw [← hw0]; exact (Below.refl _ _).alloc (Nat.le_refl _) _
  have hz0 : w.heap.size ≤ w0.heap.size := HB0.out.size
  go_enter Tryd.func5, Tryd.ntmps5
  go_upto_region 1 with (fail)
  try rw [hw0]
  clear hw0
  have c7 : w0.cell? ⟨w.heap.size, 7, none⟩ = some (.string f.a) := HX0.out.cell 7
  have c3 : w0.cell? ⟨w.heap.size, 3, none⟩ = some (.string f.e.nm) := HX0.out.cell 3
  have c6 : w0.cell? ⟨w.heap.size, 6, none⟩ = some (.string f.e.vs) := HX0.out.cell 6
  have c11 : w0.cell? ⟨w.heap.size, 11, none⟩ = some (.string f.v.vs) := HX0.out.cell 11
  have c14 : w0.cell? ⟨w.heap.size, 14, none⟩ = some (.string f.v.e.nm) := HX0.out.cell 14
  have c17 : w0.cell? ⟨w.heap.size, 17, none⟩ = some (.string f.v.e.vs) := HX0.out.cell 17
  have c21 : w0.cell? ⟨w.heap.size, 21, none⟩ = some (.string f.old.vs) := HX0.out.cell 21
  have c24 : w0.cell? ⟨w.heap.size, 24, none⟩ = some (.string f.old.e.nm) := HX0.out.cell 24
  have c27 : w0.cell? ⟨w.heap.size, 27, none⟩ = some (.string f.old.e.vs) := HX0.out.cell 27
  go_wp2
  obtain ⟨w1, hw1⟩ : ∃ w1, w0.alloc (.cells #[.int .i64 (f.a.size : Int), .int .i64 (f.e.nm.size : Int), .int .i64 (f.e.vs.size : Int), .int .i64 (f.v.vs.size : Int), .int .i64 (f.v.e.nm.size : Int), .int .i64 (f.v.e.vs.size : Int), .int .i64 (f.old.vs.size : Int), .int .i64 (f.old.e.nm.size : Int), .int .i64 (f.old.e.vs.size : Int)] 3) = w1 := ⟨_, rfl⟩
  have HP : Hid (Blk w1 w0.heap.size #[.int .i64 (f.a.size : Int), .int .i64 (f.e.nm.size : Int), .int .i64 (f.e.vs.size : Int), .int .i64 (f.v.vs.size : Int), .int .i64 (f.v.e.nm.size : Int), .int .i64 (f.v.e.vs.size : Int), .int .i64 (f.old.vs.size : Int), .int .i64 (f.old.e.nm.size : Int), .int .i64 (f.old.e.vs.size : Int)] 3) := by rw [← hw1]; exact Blk.new _ _ _
  have HB1 : Hid (Below w.heap.size w w1) := by rw [← hw1]; exact HB0.out.alloc hz0 _
  rw [hw1]
  clear hw1 c7 c3 c6 c11 c14 c17 c21 c24 c27
  go_loopg [51] 9 (fun g y wr => ∃ j : Nat, y = .int .i64 j ∧ j + g = 9 ∧ wr = w1 ∧ Hid (∀ i n, i < j → (szs f)[i]? = some n → n ≤ 1100))
  case atStart => exact ⟨0, rfl, by omega, rfl, fun i n h => by omega⟩
  case round =>
    obtain ⟨j, rfl, hj, hw, HI⟩ := hrel
    subst hw
    cases gk with
    | zero =>
      have hji : ¬ ((j : Int) < 9) := by omega
      have hGf : Hid (greatB f = false) := by
        refine greatB_none fun i n h => HI.out i n ?_ h
        have : i < (szs f).length := (List.getElem?_eq_some_iff.1 h).1
        have : (szs f).length = 9 := rfl
        omega
      go_wp2
      go_ret
      exact ⟨by rw [hGf.out]; rfl, HB1.out⟩
    | succ g =>
      have hji : (j : Int) < 9 := by omega
      obtain ⟨n, hn⟩ : ∃ n, (szs f)[j]? = some n := ⟨(szs f)[j]'(by show j < 9; omega), List.getElem?_eq_getElem _⟩
      have cj : wr.cell? ⟨w0.heap.size, j, none⟩ = some (.int .i64 (n : Int)) := by rw [HP.out.cell]; exact szs_cell f j n hn
      have HNN := Lib.hid hn
      clear hn
      by_cases h9 : 1100 < n
      · have h9i : (1100 : Int) < (n : Int) := by omega
        have hGt : Hid (greatB f = true) := greatB_yes HNN.out h9
        go_wp2
        go_ret
        exact ⟨by rw [hGt.out]; rfl, HB1.out⟩
      · have h9i : ¬ (1100 : Int) < (n : Int) := by omega
        go_wp2
        go_roundg g
        case measure => omega
        case rel => exact ⟨j + 1, by go_num, by omega, rfl, fun i m hi hm => by
          by_cases e : i = j
          · subst e; have := HNN.out.symm.trans hm; simp at this; omega
          · exact HI.out i m (by omega) hm⟩

end Go.Proofs.YtdjdlfndmeegnaaDoor
