/-
  CONTRACTS: may a value be (the program's, the document's)?
-/
import Derived.Test.YtlblbghlchedpaaDoorWord
namespace Go.Proofs.YtlblbghlchedpaaDoor
open Go.RowKit

theorem emp_eq (s : ByteArray) : s.toList.isEmpty = decide (s.size = 0) := by
  by_cases h : s.size = 0
  · rw [emp_yes h]; simp [h]
  · rw [emp_no (by omega)]; simp [h]

theorem size_of_emp {s : ByteArray} (h : s.toList = []) : s.size = 0 := by
  have := emp_eq s
  rw [h] at this
  simpa using this
theorem size_of_ne {s : ByteArray} (h : ¬ s.toList = []) : ¬ s.size = 0 := fun e => h (emp_yes e)

set_option maxHeartbeats 400000 in
theorem mayBe_1 (n : Int) (s : ByteArray) (w : World) (_hs : s.size ≤ maxLen) :
    Calls Tryd.prog 40 #[.agg #[.int .i64 1, .int .i64 n, .string s]] w fun e w' => e = .returned (.bool (mayB 1 n s)) ∧ Below w.heap.size w w' := by
  go_enter Tryd.func40, Tryd.ntmps40
  go_wp2
  go_ret
  exact ⟨ret_bool (by simp [mayB, emp_eq]), (Below.refl _ _).alloc (Nat.le_refl _) _⟩

set_option maxHeartbeats 400000 in
theorem mayBe_6 (n : Int) (s : ByteArray) (w : World) (_hs : s.size ≤ maxLen) :
    Calls Tryd.prog 40 #[.agg #[.int .i64 6, .int .i64 n, .string s]] w fun e w' => e = .returned (.bool (mayB 6 n s)) ∧ Below w.heap.size w w' := by
  go_enter Tryd.func40, Tryd.ntmps40
  go_wp2
  go_ret
  exact ⟨ret_bool (by simp [mayB, emp_eq]), (Below.refl _ _).alloc (Nat.le_refl _) _⟩

theorem word_size {s : ByteArray} (h : wordB s = true) : s.size ≤ 64 := by
  by_cases h0 : 0 < s.size
  · rw [word_cons h0] at h; simp at h; exact h.1.1
  · omega

theorem m7 {n : Int} {s : ByteArray} (h0 : (!wordB s) = false) (hn : n = 0) : decide ((s.size : Int) ≤ 1000) = mayB 7 n s := by
  have h : wordB s = true := by simpa using h0
  have := word_size h
  have h9 : decide ((s.size : Int) ≤ 1000) = true := decide_eq_true (by omega)
  rw [h9]; simp [mayB, h, hn]
theorem m7n {n : Int} {s : ByteArray} (hn : ¬ n = 0) : false = mayB 7 n s := by simp [mayB, hn]
theorem m7w {n : Int} {s : ByteArray} (h : (!wordB s) = true) : false = mayB 7 n s := by
  simp at h; simp [mayB, h]

set_option maxHeartbeats 400000 in
theorem mayBe_7 (n : Int) (s : ByteArray) (w : World) (hs : s.size ≤ maxLen) :
    Calls Tryd.prog 40 #[.agg #[.int .i64 7, .int .i64 n, .string s]] w fun e w' => e = .returned (.bool (mayB 7 n s)) ∧ Below w.heap.size w w' := by
  go_enter Tryd.func40, Tryd.ntmps40
  go_wp2_with (go_at_call 54; refine (isWord_any _ _ (by assumption)).mono ?_; rintro e w' ⟨rfl, rfl⟩)
  all_goals go_ret
  all_goals refine ⟨ret_bool ?_, (Below.refl _ _).alloc (Nat.le_refl _) _⟩
  · exact m7w ‹_›
  · exact m7 ‹_› ‹_›
  · exact m7n ‹_›

theorem m2a {n : Int} {s : ByteArray} (h : 1 < n) : false = mayB 2 n s := by simp [mayB]; omega
theorem m2b {n : Int} {s : ByteArray} (h : n < 0) : false = mayB 2 n s := by simp [mayB]; omega
theorem m2c {n : Int} {s : ByteArray} (h : n ≤ 1) (h' : 0 ≤ n) : s.toList.isEmpty = mayB 2 n s := by
  have : n = 0 ∨ n = 1 := by omega
  simp [mayB, emp_eq, this]

set_option maxHeartbeats 400000 in
theorem mayBe_2 (n : Int) (s : ByteArray) (w : World) (_hs : s.size ≤ maxLen) :
    Calls Tryd.prog 40 #[.agg #[.int .i64 2, .int .i64 n, .string s]] w fun e w' => e = .returned (.bool (mayB 2 n s)) ∧ Below w.heap.size w w' := by
  go_enter Tryd.func40, Tryd.ntmps40
  go_wp2
  all_goals go_ret
  all_goals refine ⟨ret_bool ?_, (Below.refl _ _).alloc (Nat.le_refl _) _⟩
  · exact m2a ‹_›
  · exact m2c ‹_› ‹_›
  · exact m2b ‹_›

set_option maxHeartbeats 400000 in
theorem mayBe_5 (n : Int) (s : ByteArray) (w : World) (_hs : s.size ≤ maxLen) :
    Calls Tryd.prog 40 #[.agg #[.int .i64 5, .int .i64 n, .string s]] w fun e w' => e = .returned (.bool (mayB 5 n s)) ∧ Below w.heap.size w w' := by
  by_cases h1 : 0 ≤ n
  · by_cases h2 : n < 9007199254740992
    · go_enter Tryd.func40, Tryd.ntmps40
      go_wp2
      go_ret
      exact ⟨ret_bool (by simp [mayB, emp_eq, h1, h2]), (Below.refl _ _).alloc (Nat.le_refl _) _⟩
    · go_enter Tryd.func40, Tryd.ntmps40
      go_wp2
      go_ret
      exact ⟨ret_bool (by simp [mayB, h2]), (Below.refl _ _).alloc (Nat.le_refl _) _⟩
  · go_enter Tryd.func40, Tryd.ntmps40
    go_wp2
    go_ret
    exact ⟨ret_bool (by simp [mayB]; omega), (Below.refl _ _).alloc (Nat.le_refl _) _⟩

theorem m3 {n : Int} {s : ByteArray} (h : n = 0) : decide ((s.size : Int) ≤ 1000) = mayB 3 n s := by
  have e : decide ((s.size : Int) ≤ 1000) = decide (s.size ≤ 1000) := by rw [decide_eq_decide]; omega
  simp [mayB, h, e]
theorem m3n {n : Int} {s : ByteArray} (h : ¬ n = 0) : false = mayB 3 n s := by simp [mayB, h]
theorem m4 {n : Int} {s : ByteArray} (h : n = 0) : decide ((s.size : Int) ≤ 1000) = mayB 4 n s := m3 h
theorem m4n {n : Int} {s : ByteArray} (h : ¬ n = 0) : false = mayB 4 n s := m3n h

set_option maxHeartbeats 400000 in
theorem mayBe_3 (n : Int) (s : ByteArray) (w : World) (_hs : s.size ≤ maxLen) :
    Calls Tryd.prog 40 #[.agg #[.int .i64 3, .int .i64 n, .string s]] w fun e w' => e = .returned (.bool (mayB 3 n s)) ∧ Below w.heap.size w w' := by
  go_enter Tryd.func40, Tryd.ntmps40
  go_wp2
  all_goals go_ret
  all_goals refine ⟨ret_bool ?_, (Below.refl _ _).alloc (Nat.le_refl _) _⟩
  · exact m3 ‹_›
  · exact m3n ‹_›
set_option maxHeartbeats 400000 in
theorem mayBe_4 (n : Int) (s : ByteArray) (w : World) (_hs : s.size ≤ maxLen) :
    Calls Tryd.prog 40 #[.agg #[.int .i64 4, .int .i64 n, .string s]] w fun e w' => e = .returned (.bool (mayB 4 n s)) ∧ Below w.heap.size w w' := by
  go_enter Tryd.func40, Tryd.ntmps40
  go_wp2
  all_goals go_ret
  all_goals refine ⟨ret_bool ?_, (Below.refl _ _).alloc (Nat.le_refl _) _⟩
  · exact m4 ‹_›
  · exact m4n ‹_›

set_option maxHeartbeats 400000 in
theorem mayBe_x (k n : Int) (s : ByteArray) (w : World) (_hs : s.size ≤ maxLen) (h1 : ¬ k = 1) (h2 : ¬ k = 2) (h3 : ¬ k = 3) (h4 : ¬ k = 4) (h5 : ¬ k = 5) (h6 : ¬ k = 6) (h7 : ¬ k = 7) :
    Calls Tryd.prog 40 #[.agg #[.int .i64 k, .int .i64 n, .string s]] w fun e w' => e = .returned (.bool (mayB k n s)) ∧ Below w.heap.size w w' := by
  go_enter Tryd.func40, Tryd.ntmps40
  go_wp2
  all_goals go_ret
  all_goals refine ⟨ret_bool ?_, (Below.refl _ _).alloc (Nat.le_refl _) _⟩
  all_goals simp [mayB, h1, h2, h3, h4, h5, h6, h7]

theorem mayBe_any (k n : Int) (s : ByteArray) (w : World) (hs : s.size ≤ maxLen) :
    Calls Tryd.prog 40 #[.agg #[.int .i64 k, .int .i64 n, .string s]] w fun e w' => e = .returned (.bool (mayB k n s)) ∧ Below w.heap.size w w' := by
  by_cases h1 : k = 1; · subst h1; exact mayBe_1 n s w hs
  by_cases h2 : k = 2; · subst h2; exact mayBe_2 n s w hs
  by_cases h3 : k = 3; · subst h3; exact mayBe_3 n s w hs
  by_cases h4 : k = 4; · subst h4; exact mayBe_4 n s w hs
  by_cases h5 : k = 5; · subst h5; exact mayBe_5 n s w hs
  by_cases h6 : k = 6; · subst h6; exact mayBe_6 n s w hs
  by_cases h7 : k = 7; · subst h7; exact mayBe_7 n s w hs
  exact mayBe_x k n s w hs h1 h2 h3 h4 h5 h6 h7

set_option maxHeartbeats 400000 in
theorem refMay_1 (n : Int) (s : ByteArray) (w : World) (_hs : s.size ≤ maxLen) :
    Calls Tryd.prog 28 #[.agg #[.int .i64 1, .int .i64 n, .string s]] w fun e w' => e = .returned (.bool (mayB 1 n s)) ∧ Below w.heap.size w w' := by
  go_enter Tryd.func28, Tryd.ntmps28
  go_wp2
  go_ret
  exact ⟨ret_bool (by simp [mayB, emp_eq]), (Below.refl _ _).alloc (Nat.le_refl _) _⟩
set_option maxHeartbeats 400000 in
theorem refMay_6 (n : Int) (s : ByteArray) (w : World) (_hs : s.size ≤ maxLen) :
    Calls Tryd.prog 28 #[.agg #[.int .i64 6, .int .i64 n, .string s]] w fun e w' => e = .returned (.bool (mayB 6 n s)) ∧ Below w.heap.size w w' := by
  go_enter Tryd.func28, Tryd.ntmps28
  go_wp2
  go_ret
  exact ⟨ret_bool (by simp [mayB, emp_eq]), (Below.refl _ _).alloc (Nat.le_refl _) _⟩
set_option maxHeartbeats 400000 in
theorem refMay_3 (n : Int) (s : ByteArray) (w : World) (_hs : s.size ≤ maxLen) :
    Calls Tryd.prog 28 #[.agg #[.int .i64 3, .int .i64 n, .string s]] w fun e w' => e = .returned (.bool (mayB 3 n s)) ∧ Below w.heap.size w w' := by
  go_enter Tryd.func28, Tryd.ntmps28
  go_wp2
  all_goals go_ret
  all_goals refine ⟨ret_bool ?_, (Below.refl _ _).alloc (Nat.le_refl _) _⟩
  · exact m3 ‹_›
  · exact m3n ‹_›
set_option maxHeartbeats 400000 in
theorem refMay_4 (n : Int) (s : ByteArray) (w : World) (_hs : s.size ≤ maxLen) :
    Calls Tryd.prog 28 #[.agg #[.int .i64 4, .int .i64 n, .string s]] w fun e w' => e = .returned (.bool (mayB 4 n s)) ∧ Below w.heap.size w w' := by
  go_enter Tryd.func28, Tryd.ntmps28
  go_wp2
  all_goals go_ret
  all_goals refine ⟨ret_bool ?_, (Below.refl _ _).alloc (Nat.le_refl _) _⟩
  · exact m4 ‹_›
  · exact m4n ‹_›
set_option maxHeartbeats 400000 in
theorem refMay_2 (n : Int) (s : ByteArray) (w : World) (_hs : s.size ≤ maxLen) :
    Calls Tryd.prog 28 #[.agg #[.int .i64 2, .int .i64 n, .string s]] w fun e w' => e = .returned (.bool (mayB 2 n s)) ∧ Below w.heap.size w w' := by
  go_enter Tryd.func28, Tryd.ntmps28
  go_wp2
  all_goals go_ret
  all_goals refine ⟨ret_bool ?_, (Below.refl _ _).alloc (Nat.le_refl _) _⟩
  · have hz := size_of_emp ‹s.toList = []›
    have hn : n = 0 := ‹n = 0›
    simp [mayB, hz, hn]
  · have hz := size_of_emp ‹s.toList = []›
    have hn : ¬ n = 0 := ‹¬ n = 0›
    simp [mayB, hz, hn, Bool.beq_eq_decide_eq]
  · have hz := size_of_ne ‹¬ s.toList = []›
    simp [mayB, hz]
set_option maxHeartbeats 400000 in
theorem refMay_5 (n : Int) (s : ByteArray) (w : World) (_hs : s.size ≤ maxLen) :
    Calls Tryd.prog 28 #[.agg #[.int .i64 5, .int .i64 n, .string s]] w fun e w' => e = .returned (.bool (mayB 5 n s)) ∧ Below w.heap.size w w' := by
  go_enter Tryd.func28, Tryd.ntmps28
  go_wp2
  all_goals go_ret
  all_goals refine ⟨ret_bool ?_, (Below.refl _ _).alloc (Nat.le_refl _) _⟩
  · have hz := size_of_emp ‹s.toList = []›
    have hn : 0 ≤ n := ‹0 ≤ n›
    simp [mayB, hz, hn]
  · have hz := size_of_emp ‹s.toList = []›
    have hn : ¬ 0 ≤ n := by have : n < 0 := ‹n < 0›; omega
    simp [mayB, hz, hn]
  · have hz := size_of_ne ‹¬ s.toList = []›
    simp [mayB, hz]
set_option maxHeartbeats 400000 in
theorem refMay_7 (n : Int) (s : ByteArray) (w : World) (hs : s.size ≤ maxLen) :
    Calls Tryd.prog 28 #[.agg #[.int .i64 7, .int .i64 n, .string s]] w fun e w' => e = .returned (.bool (mayB 7 n s)) ∧ Below w.heap.size w w' := by
  go_enter Tryd.func28, Tryd.ntmps28
  go_wp2_with (go_at_call 47; refine (refWord_any _ _ (by assumption)).mono ?_; rintro e w' ⟨rfl, rfl⟩)
  all_goals go_ret
  all_goals refine ⟨ret_bool ?_, (Below.refl _ _).alloc (Nat.le_refl _) _⟩
  · have hn : n = 0 := ‹n = 0›
    simp [mayB, hn]
  · exact m7n ‹_›
set_option maxHeartbeats 400000 in
theorem refMay_x (k n : Int) (s : ByteArray) (w : World) (_hs : s.size ≤ maxLen) (h1 : ¬ k = 1) (h2 : ¬ k = 2) (h3 : ¬ k = 3) (h4 : ¬ k = 4) (h5 : ¬ k = 5) (h6 : ¬ k = 6) (h7 : ¬ k = 7) :
    Calls Tryd.prog 28 #[.agg #[.int .i64 k, .int .i64 n, .string s]] w fun e w' => e = .returned (.bool (mayB k n s)) ∧ Below w.heap.size w w' := by
  go_enter Tryd.func28, Tryd.ntmps28
  go_wp2
  all_goals go_ret
  all_goals refine ⟨ret_bool ?_, (Below.refl _ _).alloc (Nat.le_refl _) _⟩
  all_goals simp [mayB, h1, h2, h3, h4, h5, h6, h7]

theorem refMay_any (k n : Int) (s : ByteArray) (w : World) (hs : s.size ≤ maxLen) :
    Calls Tryd.prog 28 #[.agg #[.int .i64 k, .int .i64 n, .string s]] w fun e w' => e = .returned (.bool (mayB k n s)) ∧ Below w.heap.size w w' := by
  by_cases h1 : k = 1; · subst h1; exact refMay_1 n s w hs
  by_cases h2 : k = 2; · subst h2; exact refMay_2 n s w hs
  by_cases h3 : k = 3; · subst h3; exact refMay_3 n s w hs
  by_cases h4 : k = 4; · subst h4; exact refMay_4 n s w hs
  by_cases h5 : k = 5; · subst h5; exact refMay_5 n s w hs
  by_cases h6 : k = 6; · subst h6; exact refMay_6 n s w hs
  by_cases h7 : k = 7; · subst h7; exact refMay_7 n s w hs
  exact refMay_x k n s w hs h1 h2 h3 h4 h5 h6 h7

end Go.Proofs.YtlblbghlchedpaaDoor
