/-
  PLAIN FACTS: what Compact keeps of a list is compG of it.
-/
import Derived.Test.YtkoknogefmfmnaaSortP
import Derived.Lib.SlicesCompact
namespace Go.Proofs.Ytkoknogefmfmnaa
open Go.Shelf
open Go.Lib (keeps compactUpTo CompInv keeps_pos keeps_neg keeps_lt_one compactUpTo_all compactUpTo_succ range_map_get)

section
variable {α : Type} {o : α → α → Int}
theorem compG_two (h : VOrd.IsOrd o) (y x : α) : compG o [y, x] = if o y x = 0 then [y] else [y, x] := by
  unfold compG
  split
  · rename_i h0
    rw [(h.zero y x).1 h0]; rfl
  · rfl
theorem compG_snoc (h : VOrd.IsOrd o) : ∀ (l : List α) (y x : α), compG o (l ++ [y, x]) = if o y x = 0 then compG o (l ++ [y]) else compG o (l ++ [y]) ++ [x]
  | [], y, x => by
    show compG o [y, x] = if o y x = 0 then compG o [y] else compG o [y] ++ [x]
    rw [compG_two h]; rfl
  | [a], y, x => by
    show compG o (a :: y :: [x]) = if o y x = 0 then compG o (a :: y :: []) else compG o (a :: y :: []) ++ [x]
    have e1 : compG o (a :: y :: [x]) = if o a y = 0 then compG o [y, x] else a :: compG o [y, x] := by rw [compG]
    have e2 : compG o (a :: y :: []) = if o a y = 0 then compG o [y] else a :: compG o [y] := by conv => lhs; rw [compG]
    rw [e1, e2, compG_two h]
    have e3 : compG o [y] = [y] := rfl
    rw [e3]
    by_cases h1 : o a y = 0 <;> by_cases h2 : o y x = 0 <;> simp [h1, h2]
  | a :: b :: l, y, x => by
    have ih := compG_snoc h (b :: l) y x
    have e1 : compG o (a :: b :: (l ++ [y, x])) = if o a b = 0 then compG o (b :: (l ++ [y, x])) else a :: compG o (b :: (l ++ [y, x])) := by rw [compG]
    have e2 : compG o (a :: b :: (l ++ [y])) = if o a b = 0 then compG o (b :: (l ++ [y])) else a :: compG o (b :: (l ++ [y])) := by rw [compG]
    show compG o (a :: b :: (l ++ [y, x])) = if o y x = 0 then compG o (a :: b :: (l ++ [y])) else compG o (a :: b :: (l ++ [y])) ++ [x]
    rw [e1, e2]
    have ih' : compG o (b :: (l ++ [y, x])) = if o y x = 0 then compG o (b :: (l ++ [y])) else compG o (b :: (l ++ [y])) ++ [x] := ih
    rw [ih']
    by_cases h1 : o a b = 0 <;> by_cases h2 : o y x = 0 <;> simp [h1, h2]
variable [Inhabited α] [DecidableEq α]
theorem compUp (h : VOrd.IsOrd o) (d : Array α) : ∀ m, m ≤ d.size → compactUpTo d m = compG o (d.toList.take m)
  | 0, _ => by simp [compactUpTo, compG]
  | 1, hm => by
    rw [compactUpTo_succ]
    have e : d.toList.take 1 = [d[0]!] := by
      rw [List.take_succ_eq_append_getElem (by simp; omega), getElem!_pos d 0 (by omega)]; simp
    rw [e]
    simp [compactUpTo, keeps, compG]
  | m + 2, hm => by
    have ih := compUp h d (m + 1) (by omega)
    have e1 : d.toList.take (m + 1) = d.toList.take m ++ [d[m]!] := by
      rw [List.take_succ_eq_append_getElem (by simp; omega), getElem!_pos d m (by omega)]; simp
    have e2 : d.toList.take (m + 2) = d.toList.take m ++ [d[m]!, d[m + 1]!] := by
      rw [List.take_succ_eq_append_getElem (by simp; omega), e1, getElem!_pos d (m + 1) (by omega)]; simp
    rw [compactUpTo_succ, ih, e2, compG_snoc h, ← e1]
    by_cases hx : d[m + 1]! = d[m]!
    · have hz : o d[m]! d[m + 1]! = 0 := (h.zero _ _).2 hx.symm
      rw [if_pos hz, keeps_neg (by omega) (by simpa using hx)]; simp
    · have hz : ¬ o d[m]! d[m + 1]! = 0 := fun e => hx ((h.zero _ _).1 e).symm
      rw [if_neg hz, keeps_pos (by simpa using hx)]; simp
theorem compAll (h : VOrd.IsOrd o) (d : Array α) : compactUpTo d d.size = compG o d.toList := by
  rw [compUp h d d.size (Nat.le_refl _), List.take_of_length_le (by simp)]
theorem compUp_len (d : Array α) (m : Nat) : (compactUpTo d m).length ≤ m := by
  unfold compactUpTo
  rw [List.length_map]
  exact Nat.le_trans (List.length_filter_le _ _) (by simp)
end
end Go.Proofs.Ytkoknogefmfmnaa
