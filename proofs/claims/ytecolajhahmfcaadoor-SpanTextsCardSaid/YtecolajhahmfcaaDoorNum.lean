/-
  PLAIN: a number's digits are read as the number.
-/
import Derived.Test.YtecolajhahmfcaaDoorPure
import Derived.Lib.AtoiAll
import Derived.Lib.ItoaNum
import Derived.Lib.ParseIntBTie
namespace Go.Proofs.YtecolajhahmfcaaDoor
open Go.Lib

theorem parse_snoc (c : UInt8) : ∀ (l : List UInt8) (acc v : Nat), parseUint10 acc l = .ok v → parseUint10 acc (l ++ [c]) = parseUint10 v [c]
  | [], acc, v, h => by
    simp only [parseUint10] at h
    injection h with h
    rw [h]; rfl
  | d :: r, acc, v, h => by
    simp only [List.cons_append]
    unfold parseUint10 at h ⊢
    split at h
    · rename_i h1
      rw [if_pos h1]
      split at h
      · cases h
      · rename_i h2
        rw [if_neg h2]
        split at h
        · cases h
        · rename_i h3
          rw [if_neg h3]
          exact parse_snoc c r _ v h
    · cases h

theorem dec_digit (u : Nat) (h : u < 10) : (UInt8.ofNat (48 + u)).toNat = 48 + u := by
  rw [UInt8.toNat_ofNat']; omega

theorem parse_dec (u : Nat) : u < 18446744073709551616 → parseUint10 0 (decDigits u) = .ok u := by
  induction u using Nat.strongRecOn with
  | ind u ih =>
    intro hu
    rw [decDigits]
    by_cases h : u < 10
    · rw [dif_pos h]
      simp only [parseUint10, dec_digit u h]
      rw [if_pos (by omega), if_neg (by omega), if_neg (by omega)]
      congr 1; omega
    · rw [dif_neg h]
      rw [parse_snoc _ _ _ _ (ih (u / 10) (by omega) (by omega))]
      simp only [parseUint10, dec_digit (u % 10) (by omega)]
      rw [if_pos (by omega), if_neg (by omega), if_neg (by omega)]
      congr 1; omega

theorem dec_mem (u : Nat) : ∀ c ∈ decDigits u, 48 ≤ c.toNat ∧ c.toNat ≤ 57 := by
  induction u using Nat.strongRecOn with
  | ind u ih =>
    intro c hc
    rw [decDigits] at hc
    by_cases h : u < 10
    · rw [dif_pos h] at hc
      rw [List.mem_singleton] at hc
      rw [hc, dec_digit u h]; omega
    · rw [dif_neg h] at hc
      simp only [List.mem_append, List.mem_singleton] at hc
      rcases hc with hc | hc
      · exact ih (u / 10) (by omega) c hc
      · rw [hc, dec_digit (u % 10) (by omega)]; omega
theorem dec_cons (u : Nat) : ∃ c r, decDigits u = c :: r := by
  rw [decDigits]
  by_cases h : u < 10
  · rw [dif_pos h]; exact ⟨_, _, rfl⟩
  · rw [dif_neg h]
    cases hd : decDigits (u / 10)
    · exact ⟨_, _, rfl⟩
    · exact ⟨_, _, rfl⟩

theorem atoi_itoa (x : Int) (h0 : -9223372036854775808 ≤ x) (h1 : x ≤ 9223372036854775807) : atoiAll (itoa x) = .ok x := by
  unfold itoa
  by_cases hx : x < 0
  · rw [if_pos hx]
    have hp := parse_dec x.natAbs (by omega)
    obtain ⟨c, r, hc⟩ := dec_cons x.natAbs
    have hm : parseMag (decDigits x.natAbs) = .ok x.natAbs := by
      unfold parseMag; rw [if_neg (by rw [hc]; simp)]; exact hp
    simp only [atoiAll]
    have h45 : (45 : UInt8).toNat = 45 := rfl
    rw [if_pos (Or.inr h45), hm]
    simp only [h45, not_true_eq_false, false_and, if_false, true_and, if_true]
    rw [if_neg (by omega)]
    congr 1; omega
  · rw [if_neg hx]
    have hp := parse_dec x.toNat (by omega)
    obtain ⟨c, r, hc⟩ := dec_cons x.toNat
    have hd := dec_mem x.toNat c (by rw [hc]; simp)
    have hm : parseMag (decDigits x.toNat) = .ok x.toNat := by
      unfold parseMag; rw [if_neg (by rw [hc]; simp)]; exact hp
    rw [hc] at hm ⊢
    simp only [atoiAll]
    rw [if_neg (by omega), hm]
    have h45 : ¬ c.toNat = 45 := by omega
    simp only [h45, not_false_eq_true, true_and, false_and, if_false]
    rw [if_neg (by omega)]
    congr 1; omega

theorem parse_itoa (x : Int) (h0 : -9223372036854775808 ≤ x) (h1 : x ≤ 9223372036854775807) : parseIntB 64 (itoa x) = .ok x := by
  rw [parseIntB_64]; exact atoi_itoa x h0 h1

end Go.Proofs.YtecolajhahmfcaaDoor
