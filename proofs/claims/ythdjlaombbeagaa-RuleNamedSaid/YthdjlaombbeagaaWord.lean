/-
  CONTRACTS: is a text a word (the program's, the document's)?
-/
import Derived.Test.YthdjlaombbeagaaLeaf
import Derived.Deep.QuietTactic
import Derived.BigQuiet
import Derived.Lib.Hide
namespace Go.Proofs.Ythdjlaombbeagaa
open Go.RowKit

theorem word_empty {s : ByteArray} (h : s.size = 0) : wordB s = false := by
  have : s.data.toList = [] := by rw [← List.length_eq_zero_iff]; simpa using h
  unfold wordB; rw [this]; rfl
theorem word_cons {s : ByteArray} (h : 0 < s.size) : wordB s = (decide (s.size ≤ 64) && lowI s[0].toNat && (s.data.toList.drop 1).all (fun x => inwI x.toNat)) := by
  have h0 := drop_at s 0 h
  simp only [List.drop_zero, Nat.zero_add] at h0
  have hl : s.data.toList.length = s.size := Array.length_toList
  unfold wordB
  rw [h0] at hl ⊢
  have : decide ((List.drop 1 s.data.toList).length < 64) = decide (s.size ≤ 64) := by
    rw [List.length_cons] at hl
    rw [decide_eq_decide]; omega
  show (decide ((List.drop 1 s.data.toList).length < 64) && _ && _) = _
  rw [this]; rfl

theorem emp_no {s : ByteArray} (h : 0 < s.size) : s.toList.isEmpty = false := by
  rw [ByteArray.toList_eq, List.isEmpty_eq_false_iff]
  intro e
  have : s.data.toList.length = s.size := Array.length_toList
  rw [e] at this; simp at this; omega
theorem emp_ne {s : ByteArray} (h : 0 < s.size) : ¬ s.toList = [] := by
  have := emp_no h
  rwa [List.isEmpty_eq_false_iff] at this
theorem emp_yes {s : ByteArray} (h : s.size = 0) : s.toList = [] := by
  rw [ByteArray.toList_eq, ← List.length_eq_zero_iff]
  exact h

def allW (s : ByteArray) (k : Nat) : Bool := (s.data.toList.drop k).all (fun x => inwI x.toNat)
theorem allW_step {s : ByteArray} {k : Nat} (h : k < s.size) : allW s k = (inwI s[k].toNat && allW s (k + 1)) := by
  unfold allW; rw [drop_at s k h]; rfl
theorem allW_end {s : ByteArray} {k : Nat} (h : s.size ≤ k) : allW s k = true := by
  unfold allW; rw [drop_end s k h]; rfl

theorem inwI_of_low {c : Int} (h : lowI c = true) : inwI c = true := by simp [inwI, h]
theorem inwI_of_dig {c : Int} (h : digI c = true) : inwI c = true := by simp [inwI, h]
theorem inwI_46 {c : Int} (h : c = 46) : inwI c = true := by simp [inwI, h]
theorem inwI_95 {c : Int} (h : c = 95) : inwI c = true := by simp [inwI, h]
theorem inwI_45 {c : Int} (h : c = 45) : inwI c = true := by simp [inwI, h]
theorem way_last {c : Int} (h1 : ¬ c = 46) (h2 : ¬ c = 95) (h3 : ¬ c = 45) (h : (((c != 46) = false ∨ (c != 95) = false) ∨ (c != 45) = false) ∨ (c != 47) = false) : inwI c = true := by
  simp at h
  have : c = 47 := by omega
  simp [inwI, this]
theorem way_no {c : Int} (h1 : ¬ lowI c = true) (h2 : ¬ digI c = true) (h : (((c != 46) = true ∧ (c != 95) = true) ∧ (c != 45) = true) ∧ (c != 47) = true) : inwI c = false := by
  simp at h
  simp [inwI, h1, h2, h]

end Go.Proofs.Ythdjlaombbeagaa
