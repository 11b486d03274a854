/-
  CONTRACT: partsOf; which kids a form's node has.
-/
import Derived.Test.YtdjdlfndmeegnaaDoorKGath
namespace Go.Proofs.YtdjdlfndmeegnaaDoor
open Go.RowKit

def prts (k : Int) : List Nat := if k = 3 then [0, 4] else if k = 4 then [0, 1, 2, 3, 4] else [0, 1, 3, 4]
def prtC (k : Int) : Array Value := ((prts k).map fun n : Nat => Value.int .i64 (n : Int)).toArray
theorem prts_le (k : Int) : ∀ p ∈ prts k, p ≤ 4 := by
  intro p hp
  unfold prts at hp
  split at hp
  · simp at hp; omega
  · split at hp
    · simp at hp; omega
    · simp at hp; omega
theorem prts_len (k : Int) : (prts k).length ≤ 5 := by
  unfold prts
  split
  · decide
  · split <;> decide
def kidP (f : Fm) (p : Nat) : List Nd := if p = 0 then [entN f.e] else if p = 1 then [valN 7 0 f.a] else if p = 2 then [trmN f.old] else if p = 3 then [trmN f.v] else spnL f
theorem kid_all (f : Fm) (h1 : 1 ≤ f.op) (h2 : f.op ≤ 4) : namN (opS f.op) :: (prts f.op).flatMap (kidP f) = kidL f := by
  obtain ⟨op, e, a, v, old, fr, til⟩ := f
  have h : op = 1 ∨ op = 2 ∨ op = 3 ∨ op = 4 := by simp only at h1 h2; omega
  rcases h with rfl | rfl | rfl | rfl <;> simp [prts, kidP, kidL]

set_option maxRecDepth 100000 in
set_option maxHeartbeats 1000000 in
theorem parts_1 (w : World) : Calls Tryd.prog 16 #[.int .i64 1] w fun e w' => e = .returned (.slice (some ⟨w.heap.size, 0, none⟩) 4 4) ∧ w' = w.alloc (.cells #[.int .i64 0, .int .i64 1, .int .i64 3, .int .i64 4] 3) := by
  go_enter Tryd.func16, Tryd.ntmps16
  go_wp2
  go_ret
  exact ⟨rfl, rfl⟩

set_option maxRecDepth 100000 in
set_option maxHeartbeats 1000000 in
theorem parts_2 (w : World) : Calls Tryd.prog 16 #[.int .i64 2] w fun e w' => e = .returned (.slice (some ⟨w.heap.size, 0, none⟩) 4 4) ∧ w' = w.alloc (.cells #[.int .i64 0, .int .i64 1, .int .i64 3, .int .i64 4] 3) := by
  go_enter Tryd.func16, Tryd.ntmps16
  go_wp2
  go_ret
  exact ⟨rfl, rfl⟩

set_option maxRecDepth 100000 in
set_option maxHeartbeats 1000000 in
theorem parts_3 (w : World) : Calls Tryd.prog 16 #[.int .i64 3] w fun e w' => e = .returned (.slice (some ⟨w.heap.size, 0, none⟩) 2 2) ∧ w' = w.alloc (.cells #[.int .i64 0, .int .i64 4] 3) := by
  go_enter Tryd.func16, Tryd.ntmps16
  go_wp2
  go_ret
  exact ⟨rfl, rfl⟩

set_option maxRecDepth 100000 in
set_option maxHeartbeats 1000000 in
theorem parts_4 (w : World) : Calls Tryd.prog 16 #[.int .i64 4] w fun e w' => e = .returned (.slice (some ⟨w.heap.size, 0, none⟩) 5 5) ∧ w' = w.alloc (.cells #[.int .i64 0, .int .i64 1, .int .i64 2, .int .i64 3, .int .i64 4] 3) := by
  go_enter Tryd.func16, Tryd.ntmps16
  go_wp2
  go_ret
  exact ⟨rfl, rfl⟩
/-- CONTRACT: partsOf. -/
theorem parts_any (k : Nat) (w : World) (h1 : 1 ≤ k) (h2 : k ≤ 4) : Calls Tryd.prog 16 #[.int .i64 (k : Int)] w fun e w' => e = .returned (.slice (some ⟨w.heap.size, 0, none⟩) (prts k).length (prts k).length) ∧ Blk w' w.heap.size (prtC k) 3 ∧ Below w.heap.size w w' := by
  have h : k = 1 ∨ k = 2 ∨ k = 3 ∨ k = 4 := by omega
  rcases h with rfl | rfl | rfl | rfl
  · exact (parts_1 w).mono fun e w' ⟨h1, h2⟩ => ⟨h1, by rw [h2]; exact Blk.new _ _ _, by rw [h2]; exact (Below.refl _ _).alloc (Nat.le_refl _) _⟩
  · exact (parts_2 w).mono fun e w' ⟨h1, h2⟩ => ⟨h1, by rw [h2]; exact Blk.new _ _ _, by rw [h2]; exact (Below.refl _ _).alloc (Nat.le_refl _) _⟩
  · exact (parts_3 w).mono fun e w' ⟨h1, h2⟩ => ⟨h1, by rw [h2]; exact Blk.new _ _ _, by rw [h2]; exact (Below.refl _ _).alloc (Nat.le_refl _) _⟩
  · exact (parts_4 w).mono fun e w' ⟨h1, h2⟩ => ⟨h1, by rw [h2]; exact Blk.new _ _ _, by rw [h2]; exact (Below.refl _ _).alloc (Nat.le_refl _) _⟩
/-- where the forms' names lie -/
def NamesAt (W : World) : Prop := 0 < W.heap.size ∧ ∀ k : Nat, k < 5 → W.cell? ⟨0, k, none⟩ = some (.string (opS k))
theorem NamesAt.next {W W' : World} (h : NamesAt W) {B : Nat} (hb : Below B W W') (hB : W.heap.size ≤ B) : NamesAt W' :=
  ⟨by have := hb.block _ (Nat.lt_of_lt_of_le h.1 hB); have := h.1; have hs := hb.size; omega, fun k hk => (hb.cell (p := ⟨0, k, none⟩) (Nat.lt_of_lt_of_le h.1 hB)).trans (h.2 k hk)⟩
/-- what Write answers -/
def WrEnd (f : Fm) (W : World) (e : Ending) (w' : World) : Prop :=
  ∃ K c, e = .returned (.tuple #[.agg #[.int .i64 3, .int .i64 0, .int .i64 0, .string ⟨#[]⟩, .string ⟨#[]⟩, .slice K (kidL f).length c, .int .i64 0, .int .i64 0], .int .i64 0]) ∧ SlN 2 w' (fun b => b < w'.heap.size) K (kidL f) ∧ Below W.heap.size W w'

end Go.Proofs.YtdjdlfndmeegnaaDoor
