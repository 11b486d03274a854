/-
  CONTRACTS: may a value be (the program's, the document's)?
-/
import Derived.Test.YthdjlaombbeagaaWord
namespace Go.Proofs.Ythdjlaombbeagaa
open Go.RowKit

theorem emp_eq (s : ByteArray) : s.toList.isEmpty = decide (s.size = 0) := by
  by_cases h : s.size = 0
  · rw [emp_yes h]; simp [h]
  · rw [emp_no (by omega)]; simp [h]

theorem size_of_emp {s : ByteArray} (h : s.toList = []) : s.size = 0 := by
  have := emp_eq s
  rw [h] at this
  simpa using this
theorem size_of_ne {s : ByteArray} (h : ¬ s.toList = []) : ¬ s.size = 0 := fun e => h (emp_yes e)

theorem word_size {s : ByteArray} (h : wordB s = true) : s.size ≤ 64 := by
  by_cases h0 : 0 < s.size
  · rw [word_cons h0] at h; simp at h; exact h.1.1
  · omega

theorem m7 {n : Int} {s : ByteArray} (h0 : (!wordB s) = false) (hn : n = 0) : decide ((s.size : Int) ≤ 1000) = mayB 7 n s := by
  have h : wordB s = true := by simpa using h0
  have := word_size h
  have h9 : decide ((s.size : Int) ≤ 1000) = true := decide_eq_true (by omega)
  rw [h9]; simp [mayB, h, hn]
theorem m7n {n : Int} {s : ByteArray} (hn : ¬ n = 0) : false = mayB 7 n s := by simp [mayB, hn]
theorem m7w {n : Int} {s : ByteArray} (h : (!wordB s) = true) : false = mayB 7 n s := by
  simp at h; simp [mayB, h]

theorem m2a {n : Int} {s : ByteArray} (h : 1 < n) : false = mayB 2 n s := by simp [mayB]; omega
theorem m2b {n : Int} {s : ByteArray} (h : n < 0) : false = mayB 2 n s := by simp [mayB]; omega
theorem m2c {n : Int} {s : ByteArray} (h : n ≤ 1) (h' : 0 ≤ n) : s.toList.isEmpty = mayB 2 n s := by
  have : n = 0 ∨ n = 1 := by omega
  simp [mayB, emp_eq, this]

theorem m3 {n : Int} {s : ByteArray} (h : n = 0) : decide ((s.size : Int) ≤ 1000) = mayB 3 n s := by
  have e : decide ((s.size : Int) ≤ 1000) = decide (s.size ≤ 1000) := by rw [decide_eq_decide]; omega
  simp [mayB, h, e]
theorem m3n {n : Int} {s : ByteArray} (h : ¬ n = 0) : false = mayB 3 n s := by simp [mayB, h]
theorem m4 {n : Int} {s : ByteArray} (h : n = 0) : decide ((s.size : Int) ≤ 1000) = mayB 4 n s := m3 h
theorem m4n {n : Int} {s : ByteArray} (h : ¬ n = 0) : false = mayB 4 n s := m3n h

end Go.Proofs.Ythdjlaombbeagaa
