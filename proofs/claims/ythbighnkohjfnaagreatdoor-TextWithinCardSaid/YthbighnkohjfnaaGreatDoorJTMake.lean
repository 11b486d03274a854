/-
  CONTRACT: told (what makes the iterator).
-/
import Derived.Test.YthbighnkohjfnaaGreatDoorJTTold
namespace Go.Proofs.YthbighnkohjfnaaGreatDoor
open Go.RowKit Go.Shelf

set_option maxHeartbeats 400000 in
theorem oneOf_blk (s : ByteArray) (w : World) :
    Calls Tryz.prog 24 #[.string s] w fun e w' => e = .returned (.func (.func 43) #[] #[.pointer (some ⟨w.heap.size, 0, none⟩)]) ∧ w'.heap[w.heap.size]? = some (.cells #[.string s] 9 (0, 0)) ∧ Below w.heap.size w w' ∧ w'.heap.size = w.heap.size + 1 := by
  go_enter Tryz.func24, Tryz.ntmps24
  go_wp2
  go_ret
  exact ⟨rfl, heap_alloc_new w _, (Below.refl _ _).alloc (Nat.le_refl _) _, by simp⟩
set_option maxRecDepth 100000 in
set_option maxHeartbeats 2000000 in
theorem tmake_any (s : ByteArray) (w : World) :
    Calls Tryz.prog 18 #[.string s] w fun e w' => ∃ b1 b2 b3 o1 o2, e = .returned (.func (.func 31) #[] #[.pointer (some ⟨b1, 0, none⟩), .pointer (some ⟨b2, 0, none⟩), .pointer (some ⟨b3, 0, none⟩)]) ∧ CapT w' b1 b2 b3 o1 o2 s ∧ Below w.heap.size w w' := by
  obtain ⟨w1, hw1⟩ : ∃ w1, w.alloc (.cells #[.string s] 9) = w1 := ⟨_, rfl⟩
  have hb1 : Below w.heap.size w w1 := by rw [← hw1]; exact (Below.refl _ _).alloc (Nat.le_refl _) _
  have hz1 : w1.heap.size = w.heap.size + 1 := by rw [← hw1]; simp
  have hc1 : w1.heap[w.heap.size]? = some (.cells #[.string s] 9 (0, 0)) := by rw [← hw1]; exact heap_alloc_new _ _
  have HB1 := Lib.hid hb1
  have HZ1 := Lib.hid hz1
  have HC1 := Lib.hid hc1
  have HW1 := Lib.hid hw1
  clear hb1 hz1 hc1 hw1
  go_enter Tryz.func18, Tryz.ntmps18
  go_wp2_with fail
  rw [HW1.out]
  refine (oneOf_blk ⟨#[32, 9, 10, 13]⟩ w1).mono ?_
  rintro e w2 ⟨rfl, p2, hb2, hz2⟩
  have P2 := Lib.hid p2
  have HB2 := Lib.hid hb2
  have HZ2 := Lib.hid hz2
  clear p2 hb2 hz2
  go_wp2_with fail
  refine (oneOf_blk ⟨#[32, 9, 10, 13, 40, 41, 91, 93, 123, 125, 59]⟩ w2).mono ?_
  rintro e w3 ⟨rfl, p3, hb3, hz3⟩
  have P3 := Lib.hid p3
  have HB3 := Lib.hid hb3
  have HZ3 := Lib.hid hz3
  clear p3 hb3 hz3
  go_wp2
  go_ret
  have z1 := HZ1.out
  have z2 := HZ2.out
  have z3 := HZ3.out
  obtain ⟨w4, hw4⟩ : ∃ w4, w3.alloc (.cells #[.func (.func 43) #[] #[.pointer (some ⟨w1.heap.size, 0, none⟩)]] 55) = w4 := ⟨_, rfl⟩
  have hb4 : Below w3.heap.size w3 w4 := by rw [← hw4]; exact (Below.refl _ _).alloc (Nat.le_refl _) _
  have hz4 : w4.heap.size = w3.heap.size + 1 := by rw [← hw4]; simp
  have hc4 : w4.heap[w3.heap.size]? = some (.cells #[.func (.func 43) #[] #[.pointer (some ⟨w1.heap.size, 0, none⟩)]] 55 (0, 0)) := by rw [← hw4]; exact heap_alloc_new _ _
  obtain ⟨w5, hw5⟩ : ∃ w5, w4.alloc (.cells #[.func (.func 43) #[] #[.pointer (some ⟨w2.heap.size, 0, none⟩)]] 55) = w5 := ⟨_, rfl⟩
  have hb5 : Below w4.heap.size w4 w5 := by rw [← hw5]; exact (Below.refl _ _).alloc (Nat.le_refl _) _
  have hz5 : w5.heap.size = w4.heap.size + 1 := by rw [← hw5]; simp
  have hc5 : w5.heap[w4.heap.size]? = some (.cells #[.func (.func 43) #[] #[.pointer (some ⟨w2.heap.size, 0, none⟩)]] 55 (0, 0)) := by rw [← hw5]; exact heap_alloc_new _ _
  rw [hw4, hw5]
  clear hw4 hw5
  have k5 : ∀ b, b < w4.heap.size → w5.heap[b]? = w4.heap[b]? := fun b h => hb5.block b h
  have k4 : ∀ b, b < w3.heap.size → w4.heap[b]? = w3.heap[b]? := fun b h => hb4.block b h
  have k3 : ∀ b, b < w2.heap.size → w3.heap[b]? = w2.heap[b]? := fun b h => HB3.out.block b h
  have k2 : ∀ b, b < w1.heap.size → w2.heap[b]? = w1.heap[b]? := fun b h => HB2.out.block b h
  refine ⟨w.heap.size, w3.heap.size, w3.heap.size + 1, w1.heap.size, w2.heap.size, rfl, ⟨?_, ?_, ?_, ?_, ?_⟩, ?_⟩
  · rw [k5 _ (by omega), k4 _ (by omega), k3 _ (by omega), k2 _ (by omega)]; exact HC1.out
  · rw [k5 _ (by omega)]; exact hc4
  · rw [← hz4]; exact hc5
  · rw [k5 _ (by omega), k4 _ (by omega), k3 _ (by omega)]; exact P2.out
  · rw [k5 _ (by omega), k4 _ (by omega)]; exact P3.out
  · exact HB1.out.trans ((HB2.out.mono (by omega)).trans ((HB3.out.mono (by omega)).trans ((hb4.mono (by omega)).trans (hb5.mono (by omega)))))
end Go.Proofs.YthbighnkohjfnaaGreatDoor
