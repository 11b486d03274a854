/-
  PLAIN FUNCTIONS (no program): what bytes are read as.
-/
import Derived.Test.YtkoknogefmfmnaaOPure
namespace Go.Proofs.Ytkoknogefmfmnaa
open Go.RowKit

theorem horN_snoc : ∀ (l : List UInt8) (c : UInt8), horN (l ++ [c]) = horN l * 256 + c.toNat
  | [], c => by simp [horN]
  | d :: l, c => by
    show d.toNat * 256 ^ (l ++ [c]).length + horN (l ++ [c]) = (d.toNat * 256 ^ l.length + horN l) * 256 + c.toNat
    rw [horN_snoc l c, List.length_append, List.length_singleton, Nat.pow_succ, Nat.add_mul, Nat.mul_assoc]
    omega
theorem horN_take (l : List UInt8) (i : Nat) (h : i < l.length) : horN (l.take (i + 1)) = horN (l.take i) * 256 + l[i].toNat := by
  rw [List.take_succ_eq_append_getElem h, horN_snoc]
theorem horN_pow (l : List UInt8) (i : Nat) : horN (l.take i) < 256 ^ i := by
  have h1 := horN_lt (l.take i)
  have h2 : (l.take i).length ≤ i := List.length_take_le _ _
  exact Nat.lt_of_lt_of_le h1 (Nat.pow_le_pow_right (by decide) h2)
theorem horN_lo (l : List UInt8) (i : Nat) (h : i < 8) : horN (l.take i) < 72057594037927936 := by
  have h1 := horN_pow l i
  have h2 : 256 ^ i ≤ 256 ^ 7 := Nat.pow_le_pow_right (by decide) (by omega)
  have h3 : (256 : Nat) ^ 7 = 72057594037927936 := by decide
  omega
theorem horN_hi (l : List UInt8) : horN (l.take 8) < 18446744073709551616 := by
  have h1 := horN_pow l 8
  have h3 : (256 : Nat) ^ 8 = 18446744073709551616 := by decide
  omega

/-- the number that eight bytes stand for -/
def numR (l : List UInt8) : Int := (horN (l.take 8) : Int) - 9223372036854775808
theorem numR_in (l : List UInt8) : -9223372036854775808 ≤ numR l ∧ numR l ≤ 9223372036854775807 := by
  have := horN_hi l
  unfold numR
  omega
theorem shl_or (V c : Nat) (hc : c < 256) : V * 256 ||| c = V * 256 + c := by
  have h := Nat.shiftLeft_add_eq_or_of_lt (b := c) (i := 8) (by simpa using hc) V
  rw [Nat.shiftLeft_eq] at h
  exact h.symm

/-- a text up to its end -/
def txtR : List UInt8 → Option (List UInt8 × List UInt8)
  | [] => none
  | [_] => none
  | c :: d :: r => if c = 0 then if d = 1 then some ([], r) else if d = 255 then (txtR r).map fun p => (0 :: p.1, p.2) else none else (txtR (d :: r)).map fun p => (c :: p.1, p.2)

/-- a value at the beginning of bytes, and what stands behind it -/
def oneR : List UInt8 → Option ((Int × Int × List UInt8) × List UInt8)
  | [] => none
  | c :: r =>
    if c = 2 then match r with
      | [] => none
      | d :: t => if mayB 2 d.toNat ⟨#[]⟩ = true then some ((2, d.toNat, []), t) else none
    else if c = 1 ∨ c = 5 ∨ c = 6 then if 8 ≤ r.length ∧ mayB c.toNat (numR r) ⟨#[]⟩ = true then some ((c.toNat, numR r, []), r.drop 8) else none
    else if c = 3 ∨ c = 4 ∨ c = 7 then match txtR r with
      | none => none
      | some (s, t) => if mayB c.toNat 0 ⟨s.toArray⟩ = true then some ((c.toNat, 0, s), t) else none
    else none
theorem oneR_txt_none {c : UInt8} {t : List UInt8} (hc : c = 3 ∨ c = 4 ∨ c = 7) (h : txtR t = none) : oneR (c :: t) = none := by
  rcases hc with rfl | rfl | rfl <;> simp [oneR, h]
theorem oneR_txt_no {c : UInt8} {t s u : List UInt8} (hc : c = 3 ∨ c = 4 ∨ c = 7) (h : txtR t = some (s, u)) (hm : mayB c.toNat 0 ⟨s.toArray⟩ = false) : oneR (c :: t) = none := by
  rcases hc with rfl | rfl | rfl <;> (unfold oneR; simp only [h, hm]; rfl)
theorem oneR_txt_yes {c : UInt8} {t s u : List UInt8} (hc : c = 3 ∨ c = 4 ∨ c = 7) (h : txtR t = some (s, u)) (hm : mayB c.toNat 0 ⟨s.toArray⟩ = true) : oneR (c :: t) = some (((c.toNat : Int), 0, s), u) := by
  rcases hc with rfl | rfl | rfl <;> (unfold oneR; simp only [h, hm]; rfl)
theorem oneR_num_none {c : UInt8} {t : List UInt8} (hc : c = 1 ∨ c = 5 ∨ c = 6) (h : t.length < 8) : oneR (c :: t) = none := by
  have h8 : ¬ 8 ≤ t.length := by omega
  rcases hc with rfl | rfl | rfl <;> simp [oneR, h8]
theorem oneR_num_no {c : UInt8} {t : List UInt8} (hc : c = 1 ∨ c = 5 ∨ c = 6) (hm : mayB c.toNat (numR t) ⟨#[]⟩ = false) : oneR (c :: t) = none := by
  rcases hc with rfl | rfl | rfl <;> (unfold oneR; simp only [hm, Bool.false_eq_true, and_false]; rfl)
theorem oneR_num_yes {c : UInt8} {t : List UInt8} (hc : c = 1 ∨ c = 5 ∨ c = 6) (h : 8 ≤ t.length) (hm : mayB c.toNat (numR t) ⟨#[]⟩ = true) : oneR (c :: t) = some (((c.toNat : Int), numR t, []), t.drop 8) := by
  rcases hc with rfl | rfl | rfl <;> (unfold oneR; simp only [hm, h, and_self]; rfl)
theorem oneR_two_none : oneR [2] = none := rfl
theorem oneR_two_no {d : UInt8} {t : List UInt8} (hm : mayB 2 d.toNat ⟨#[]⟩ = false) : oneR (2 :: d :: t) = none := by
  unfold oneR; simp only [hm]; rfl
theorem oneR_two_yes {d : UInt8} {t : List UInt8} (hm : mayB 2 d.toNat ⟨#[]⟩ = true) : oneR (2 :: d :: t) = some ((2, (d.toNat : Int), []), t) := by
  unfold oneR; simp only [hm]; rfl
theorem oneR_else {c : UInt8} {t : List UInt8} (h1 : c ≠ 1) (h2 : c ≠ 2) (h3 : c ≠ 3) (h4 : c ≠ 4) (h5 : c ≠ 5) (h6 : c ≠ 6) (h7 : c ≠ 7) : oneR (c :: t) = none := by
  unfold oneR; simp [h1, h2, h3, h4, h5, h6, h7]

/-- a part at the beginning of bytes, and what stands behind it -/
def partR (v : Bool) (b : List UInt8) : Option (PartP × List UInt8) :=
  if v then (oneR b).map fun p => (⟨true, 0, p.1.1, p.1.2.1, ⟨p.1.2.2.toArray⟩⟩, p.2)
  else if 8 ≤ b.length then some (⟨false, numR b, 0, 0, ⟨#[]⟩⟩, b.drop 8) else none
end Go.Proofs.Ytkoknogefmfmnaa
