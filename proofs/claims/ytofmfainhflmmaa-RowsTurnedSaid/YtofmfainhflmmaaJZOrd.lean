/-
  PLAIN FACTS: how two rows stand; sorting rows, each once.
-/
import Derived.Test.YtofmfainhflmmaaJVOrd
namespace Go.Proofs.Ytofmfainhflmmaa
open Go.RowKit
open VOrd (IsOrd ordT ordT_is)

/-- how two rows stand -/
def ordR : List (Int × (Int × ByteArray)) → List (Int × (Int × ByteArray)) → Int
  | [], [] => 0
  | [], _ :: _ => -1
  | _ :: _, [] => 1
  | x :: l, y :: r => if ordT x y = 0 then ordR l r else ordT x y
theorem ordR_range : ∀ l r, ordR l r = -1 ∨ ordR l r = 0 ∨ ordR l r = 1
  | [], [] => by simp [ordR]
  | [], _ :: _ => by simp [ordR]
  | _ :: _, [] => by simp [ordR]
  | x :: l, y :: r => by
    have := ordR_range l r
    have h2 := ordT_is.range x y
    simp only [ordR]
    split
    · exact this
    · exact h2
theorem ordR_zero : ∀ l r, ordR l r = 0 ↔ l = r
  | [], [] => by simp [ordR]
  | [], _ :: _ => by simp [ordR]
  | _ :: _, [] => by simp [ordR]
  | x :: l, y :: r => by
    have ih := ordR_zero l r
    have h0 := ordT_is.zero x y
    simp only [ordR]
    by_cases h : ordT x y = 0
    · rw [if_pos h, ih, h0.1 h]; simp
    · rw [if_neg h]
      constructor
      · intro e; exact absurd e h
      · intro e; injection e with e1 _; exact absurd (h0.2 e1) h
theorem ordR_swap : ∀ l r, ordR r l = - ordR l r
  | [], [] => by simp [ordR]
  | [], _ :: _ => by simp [ordR]
  | _ :: _, [] => by simp [ordR]
  | x :: l, y :: r => by
    have ih := ordR_swap l r
    have h := ordT_is.swap x y
    simp only [ordR]
    by_cases k : ordT x y = 0
    · rw [if_pos k, if_pos (by omega)]; exact ih
    · rw [if_neg k, if_neg (by omega)]; exact h
theorem ordR_trans : ∀ l r t, ordR l r ≤ 0 → ordR r t ≤ 0 → ordR l t ≤ 0
  | [], _, [] => by simp [ordR]
  | [], _, _ :: _ => by simp [ordR]
  | _ :: _, [], _ => by simp [ordR]
  | _ :: _, _ :: _, [] => by simp [ordR]
  | x :: l, y :: r, z :: t => by
    simp only [ordR]
    intro h1 h2
    by_cases k1 : ordT x y = 0
    · have e1 := (ordT_is.zero x y).1 k1
      rw [if_pos k1] at h1
      subst e1
      by_cases k2 : ordT x z = 0
      · rw [if_pos k2] at h2
        rw [if_pos k2]; exact ordR_trans l r t h1 h2
      · rw [if_neg k2] at h2
        rw [if_neg k2]; exact h2
    · rw [if_neg k1] at h1
      have h3 : ordT y z ≤ 0 := by
        by_cases k2 : ordT y z = 0
        · omega
        · rw [if_neg k2] at h2; exact h2
      have h4 := ordT_is.lt (a := x) (b := y) (c := z) (by omega) h3
      rw [if_neg (by omega)]; omega
theorem ordR_is : IsOrd ordR := ⟨ordR_range, ordR_zero, ordR_swap, ordR_trans⟩
theorem ordR_ne {x y : Int × (Int × ByteArray)} (l r : List (Int × (Int × ByteArray))) (h : ¬ ordT x y = 0) : ordR (x :: l) (y :: r) = ordT x y := by rw [ordR, if_neg h]
theorem ordR_eq {x y : Int × (Int × ByteArray)} (l r : List (Int × (Int × ByteArray))) (h : ordT x y = 0) : ordR (x :: l) (y :: r) = ordR l r := by rw [ordR, if_pos h]
theorem ordR_endl (r : List (Int × (Int × ByteArray))) : ordR [] r = if 0 < r.length then -1 else 0 := by
  cases r <;> simp [ordR]
theorem ordR_endr {l : List (Int × (Int × ByteArray))} (h : 0 < l.length) : ordR l [] = 1 := by
  cases l with
  | nil => simp at h
  | cons x l => rfl
end Go.Proofs.Ytofmfainhflmmaa
