import Derived.Test.YtefekkcmoambhaaJOWords
import Derived.Test.YtefekkcmoambhaaJOPartArgs
/-
  PLAIN FUNCTIONS (no program): what bytes are read as.
-/
namespace Go.Proofs.Ytefekkcmoambhaa
open Go.RowKit

theorem horN_snoc : ∀ (l : List UInt8) (c : UInt8), horN (l ++ [c]) = horN l * 256 + c.toNat
  | [], c => by simp [horN]
  | d :: l, c => by
    show d.toNat * 256 ^ (l ++ [c]).length + horN (l ++ [c]) = (d.toNat * 256 ^ l.length + horN l) * 256 + c.toNat
    rw [horN_snoc l c, List.length_append, List.length_singleton, Nat.pow_succ, Nat.add_mul, Nat.mul_assoc]
    omega
theorem horN_take (l : List UInt8) (i : Nat) (h : i < l.length) : horN (l.take (i + 1)) = horN (l.take i) * 256 + l[i].toNat := by
  rw [List.take_succ_eq_append_getElem h, horN_snoc]
theorem horN_pow (l : List UInt8) (i : Nat) : horN (l.take i) < 256 ^ i := by
  have h1 := horN_lt (l.take i)
  have h2 : (l.take i).length ≤ i := List.length_take_le _ _
  exact Nat.lt_of_lt_of_le h1 (Nat.pow_le_pow_right (by decide) h2)
theorem horN_lo (l : List UInt8) (i : Nat) (h : i < 8) : horN (l.take i) < 72057594037927936 := by
  have h1 := horN_pow l i
  have h2 : 256 ^ i ≤ 256 ^ 7 := Nat.pow_le_pow_right (by decide) (by omega)
  have h3 : (256 : Nat) ^ 7 = 72057594037927936 := by decide
  omega
theorem horN_hi (l : List UInt8) : horN (l.take 8) < 18446744073709551616 := by
  have h1 := horN_pow l 8
  have h3 : (256 : Nat) ^ 8 = 18446744073709551616 := by decide
  omega

/-- the number that eight bytes stand for -/
def numR (l : List UInt8) : Int := (horN (l.take 8) : Int) - 9223372036854775808
theorem numR_in (l : List UInt8) : -9223372036854775808 ≤ numR l ∧ numR l ≤ 9223372036854775807 := by
  have := horN_hi l
  unfold numR
  omega
theorem shl_or (V c : Nat) (hc : c < 256) : V * 256 ||| c = V * 256 + c := by
  have h := Nat.shiftLeft_add_eq_or_of_lt (b := c) (i := 8) (by simpa using hc) V
  rw [Nat.shiftLeft_eq] at h
  exact h.symm

/-- a text up to its end -/
def txtR : List UInt8 → Option (List UInt8 × List UInt8)
  | [] => none
  | [_] => none
  | c :: d :: r => if c = 0 then if d = 1 then some ([], r) else if d = 255 then (txtR r).map fun p => (0 :: p.1, p.2) else none else (txtR (d :: r)).map fun p => (c :: p.1, p.2)

/-- a value at the beginning of bytes, and what stands behind it -/
def oneR : List UInt8 → Option ((Int × Int × List UInt8) × List UInt8)
  | [] => none
  | c :: r =>
    if c = 2 then match r with
      | [] => none
      | d :: t => if mayB 2 d.toNat ⟨#[]⟩ = true then some ((2, d.toNat, []), t) else none
    else if c = 1 ∨ c = 5 ∨ c = 6 then if 8 ≤ r.length ∧ mayB c.toNat (numR r) ⟨#[]⟩ = true then some ((c.toNat, numR r, []), r.drop 8) else none
    else if c = 3 ∨ c = 4 ∨ c = 7 then match txtR r with
      | none => none
      | some (s, t) => if mayB c.toNat 0 ⟨s.toArray⟩ = true then some ((c.toNat, 0, s), t) else none
    else none
theorem oneR_txt_none {c : UInt8} {t : List UInt8} (hc : c = 3 ∨ c = 4 ∨ c = 7) (h : txtR t = none) : oneR (c :: t) = none := by
  rcases hc with rfl | rfl | rfl <;> simp [oneR, h]
theorem oneR_txt_no {c : UInt8} {t s u : List UInt8} (hc : c = 3 ∨ c = 4 ∨ c = 7) (h : txtR t = some (s, u)) (hm : mayB c.toNat 0 ⟨s.toArray⟩ = false) : oneR (c :: t) = none := by
  rcases hc with rfl | rfl | rfl <;> (unfold oneR; simp only [h, hm]; rfl)
theorem oneR_txt_yes {c : UInt8} {t s u : List UInt8} (hc : c = 3 ∨ c = 4 ∨ c = 7) (h : txtR t = some (s, u)) (hm : mayB c.toNat 0 ⟨s.toArray⟩ = true) : oneR (c :: t) = some (((c.toNat : Int), 0, s), u) := by
  rcases hc with rfl | rfl | rfl <;> (unfold oneR; simp only [h, hm]; rfl)
theorem oneR_num_none {c : UInt8} {t : List UInt8} (hc : c = 1 ∨ c = 5 ∨ c = 6) (h : t.length < 8) : oneR (c :: t) = none := by
  have h8 : ¬ 8 ≤ t.length := by omega
  rcases hc with rfl | rfl | rfl <;> simp [oneR, h8]
theorem oneR_num_no {c : UInt8} {t : List UInt8} (hc : c = 1 ∨ c = 5 ∨ c = 6) (hm : mayB c.toNat (numR t) ⟨#[]⟩ = false) : oneR (c :: t) = none := by
  rcases hc with rfl | rfl | rfl <;> (unfold oneR; simp only [hm, Bool.false_eq_true, and_false]; rfl)
theorem oneR_num_yes {c : UInt8} {t : List UInt8} (hc : c = 1 ∨ c = 5 ∨ c = 6) (h : 8 ≤ t.length) (hm : mayB c.toNat (numR t) ⟨#[]⟩ = true) : oneR (c :: t) = some (((c.toNat : Int), numR t, []), t.drop 8) := by
  rcases hc with rfl | rfl | rfl <;> (unfold oneR; simp only [hm, h, and_self]; rfl)
theorem oneR_two_none : oneR [2] = none := rfl
theorem oneR_two_no {d : UInt8} {t : List UInt8} (hm : mayB 2 d.toNat ⟨#[]⟩ = false) : oneR (2 :: d :: t) = none := by
  unfold oneR; simp only [hm]; rfl
theorem oneR_two_yes {d : UInt8} {t : List UInt8} (hm : mayB 2 d.toNat ⟨#[]⟩ = true) : oneR (2 :: d :: t) = some ((2, (d.toNat : Int), []), t) := by
  unfold oneR; simp only [hm]; rfl
theorem oneR_else {c : UInt8} {t : List UInt8} (h1 : c ≠ 1) (h2 : c ≠ 2) (h3 : c ≠ 3) (h4 : c ≠ 4) (h5 : c ≠ 5) (h6 : c ≠ 6) (h7 : c ≠ 7) : oneR (c :: t) = none := by
  unfold oneR; simp [h1, h2, h3, h4, h5, h6, h7]

/-- a part at the beginning of bytes, and what stands behind it -/
def partR (v : Bool) (b : List UInt8) : Option (PartP × List UInt8) :=
  if v then (oneR b).map fun p => (⟨true, 0, p.1.1, p.1.2.1, ⟨p.1.2.2.toArray⟩⟩, p.2)
  else if 8 ≤ b.length then some (⟨false, numR b, 0, 0, ⟨#[]⟩⟩, b.drop 8) else none
end Go.Proofs.Ytefekkcmoambhaa

/-
  PLAIN FACTS: what is written is read as it was; what is read, written, are the bytes.
-/
namespace Go.Proofs.Ytefekkcmoambhaa
open Go.RowKit

theorem numR_numB (n : Int) (hn : -9223372036854775808 ≤ n ∧ n ≤ 9223372036854775807) (t : List UInt8) : numR (numB n ++ t) = n := by
  unfold numR numB
  rw [List.take_append_of_le_length (by rw [be8_len]; omega), List.take_of_length_le (by rw [be8_len]; omega), horN_be8 _ (by unfold turnN; omega)]
  unfold turnN
  omega
theorem be8_horN : ∀ {l : List UInt8}, l.length = 8 → be8 (horN l) = l
  | [a, b, c, d, e, f, g, h], _ => by
    have ha := a.toNat_lt; have hb := b.toNat_lt; have hc := c.toNat_lt; have hd := d.toNat_lt
    have he := e.toNat_lt; have hf := f.toNat_lt; have hg := g.toNat_lt; have hh := h.toNat_lt
    unfold be8
    simp only [horN, List.length_cons, List.length_nil, Nat.zero_add, Nat.reduceAdd, Nat.reducePow]
    have k : ∀ (x : UInt8) (v : Nat), v % 256 = x.toNat → UInt8.ofNat v = x := fun x v h => UInt8.toNat_inj.1 (by rw [byteN, h])
    rw [k a _ (by omega), k b _ (by omega), k c _ (by omega), k d _ (by omega), k e _ (by omega), k f _ (by omega), k g _ (by omega), k h _ (by omega)]
theorem numB_numR {l : List UInt8} (h : 8 ≤ l.length) : numB (numR l) = l.take 8 := by
  have hl : (l.take 8).length = 8 := by rw [List.length_take]; omega
  unfold numB numR turnN
  rw [show ((horN (l.take 8) : Int) - 9223372036854775808 + 9223372036854775808).toNat = horN (l.take 8) from by omega, be8_horN hl]
theorem txtR_strB : ∀ (s t : List UInt8), txtR (strB s ++ t) = some (s, t)
  | [], t => by simp [strB, txtR]
  | c :: r, t => by
    unfold strB
    by_cases hc : c = 0
    · rw [if_pos hc]
      subst hc
      have ih := txtR_strB r t
      simp only [List.cons_append, txtR, if_true]
      rw [if_neg (by decide), ih]
      rfl
    · rw [if_neg hc]
      have ih := txtR_strB r t
      obtain ⟨d, u, hd⟩ : ∃ d u, strB r ++ t = d :: u := by
        cases hh : strB r ++ t with
        | nil => rw [hh] at ih; cases ih
        | cons d u => exact ⟨d, u, rfl⟩
      rw [List.cons_append, hd, txtR, if_neg hc, ← hd, ih]
      rfl
theorem strB_txtR : ∀ {l s u : List UInt8}, txtR l = some (s, u) → l = strB s ++ u
  | [], _, _, h => by cases h
  | [_], _, _, h => by cases h
  | c :: d :: r, s, u, h => by
    rw [txtR] at h
    by_cases hc : c = 0
    · rw [if_pos hc] at h
      by_cases h1 : d = 1
      · rw [if_pos h1] at h
        cases h
        rw [hc, h1]; rfl
      · rw [if_neg h1] at h
        by_cases h2 : d = 255
        · rw [if_pos h2] at h
          cases hr : txtR r with
          | none => rw [hr] at h; cases h
          | some p =>
            obtain ⟨s', u'⟩ := p
            rw [hr] at h
            have := strB_txtR hr
            cases h
            rw [hc, h2, this]
            simp [strB]
        · rw [if_neg h2] at h; cases h
    · rw [if_neg hc] at h
      cases hr : txtR (d :: r) with
      | none => rw [hr] at h; cases h
      | some p =>
        obtain ⟨s', u'⟩ := p
        rw [hr] at h
        have := strB_txtR hr
        cases h
        rw [this]
        simp [strB, hc]

theorem mayB_kind {k n : Int} {s : ByteArray} (h : mayB k n s = true) : k = 1 ∨ k = 2 ∨ k = 3 ∨ k = 4 ∨ k = 5 ∨ k = 6 ∨ k = 7 := by
  unfold mayB at h
  by_cases h1 : k = 1 ∨ k = 6; · omega
  by_cases h2 : k = 2; · omega
  by_cases h3 : k = 3 ∨ k = 4; · omega
  by_cases h5 : k = 5; · omega
  by_cases h7 : k = 7; · omega
  rw [if_neg h1, if_neg h2, if_neg h3, if_neg h5, if_neg h7] at h
  cases h
theorem mayB_size {k n : Int} {s : ByteArray} (h : mayB k n s = true) : s.size ≤ 1000 := by
  unfold mayB at h
  by_cases h1 : k = 1 ∨ k = 6
  · rw [if_pos h1] at h; have := of_decide_eq_true h; omega
  rw [if_neg h1] at h
  by_cases h2 : k = 2
  · rw [if_pos h2, Bool.and_eq_true] at h; have := of_decide_eq_true h.1; omega
  rw [if_neg h2] at h
  by_cases h3 : k = 3 ∨ k = 4
  · rw [if_pos h3, Bool.and_eq_true] at h; exact of_decide_eq_true h.2
  rw [if_neg h3] at h
  by_cases h5 : k = 5
  · rw [if_pos h5, Bool.and_eq_true] at h; have := of_decide_eq_true h.1; omega
  rw [if_neg h5] at h
  by_cases h7 : k = 7
  · rw [if_pos h7, Bool.and_eq_true] at h
    have h8 := h.2
    unfold wordB wordL at h8
    have e : s.data.toList.length = s.size := Array.length_toList
    cases hd : s.data.toList with
    | nil => rw [hd] at h8; cases h8
    | cons c r =>
      rw [hd] at h8 e
      simp only [Bool.and_eq_true] at h8
      have := of_decide_eq_true h8.1.1
      rw [List.length_cons] at e
      omega
  rw [if_neg h7] at h
  cases h
theorem empty_of {s : ByteArray} (h : s.size = 0) : s = ⟨#[]⟩ := by
  obtain ⟨d⟩ := s
  have : d.size = 0 := h
  rw [Array.eq_empty_of_size_eq_zero this]

theorem oneR_valB {k n : Int} {s : ByteArray} (h : mayB k n s = true) (hn : -9223372036854775808 ≤ n ∧ n ≤ 9223372036854775807) (t : List UInt8) : oneR (valB k n s ++ t) = some ((k, n, s.data.toList), t) := by
  have h0 := h
  unfold mayB at h0
  rcases mayB_kind h with rfl | rfl | rfl | rfl | rfl | rfl | rfl
  · obtain rfl := empty_of (of_decide_eq_true (by simpa using h0))
    show oneR (1 :: (numB n ++ t)) = _
    have e := numR_numB n hn t
    rw [oneR_num_yes (c := 1) (.inl rfl) (by rw [List.length_append, numB_len]; omega) (by rw [e]; exact h), e, List.drop_append_of_le_length (by rw [numB_len]; omega), List.drop_of_length_le (by rw [numB_len]; omega)]
    rfl
  · simp only [show ¬ ((2 : Int) = 1 ∨ (2 : Int) = 6) from by decide, if_false, if_true, Bool.and_eq_true, decide_eq_true_eq] at h0
    obtain rfl := empty_of h0.1
    show oneR (2 :: UInt8.ofNat n.toNat :: t) = _
    have e : ((UInt8.ofNat n.toNat).toNat : Int) = n := by
      rw [byteN]
      rcases h0.2 with rfl | rfl <;> rfl
    rw [oneR_two_yes (by rw [e]; exact h), e]
  · simp only [show ¬ ((3 : Int) = 1 ∨ (3 : Int) = 6) from by decide, show ¬ ((3 : Int) = 2) from by decide, if_false, true_or, if_true, Bool.and_eq_true, decide_eq_true_eq] at h0
    obtain rfl := h0.1
    show oneR (3 :: (strB s.data.toList ++ t)) = _
    rw [oneR_txt_yes (.inl rfl) (txtR_strB _ _) h]
    rfl
  · simp only [show ¬ ((4 : Int) = 1 ∨ (4 : Int) = 6) from by decide, show ¬ ((4 : Int) = 2) from by decide, if_false, or_true, if_true, Bool.and_eq_true, decide_eq_true_eq] at h0
    obtain rfl := h0.1
    show oneR (4 :: (strB s.data.toList ++ t)) = _
    rw [oneR_txt_yes (.inr (.inl rfl)) (txtR_strB _ _) h]
    rfl
  · simp only [show ¬ ((5 : Int) = 1 ∨ (5 : Int) = 6) from by decide, show ¬ ((5 : Int) = 2) from by decide, show ¬ ((5 : Int) = 3 ∨ (5 : Int) = 4) from by decide, if_false, if_true, Bool.and_eq_true, decide_eq_true_eq] at h0
    obtain rfl := empty_of h0.1
    show oneR (5 :: (numB n ++ t)) = _
    have e := numR_numB n hn t
    rw [oneR_num_yes (c := 5) (.inr (.inl rfl)) (by rw [List.length_append, numB_len]; omega) (by rw [e]; exact h), e, List.drop_append_of_le_length (by rw [numB_len]; omega), List.drop_of_length_le (by rw [numB_len]; omega)]
    rfl
  · obtain rfl := empty_of (of_decide_eq_true (by simpa using h0))
    show oneR (6 :: (numB n ++ t)) = _
    have e := numR_numB n hn t
    rw [oneR_num_yes (c := 6) (.inr (.inr rfl)) (by rw [List.length_append, numB_len]; omega) (by rw [e]; exact h), e, List.drop_append_of_le_length (by rw [numB_len]; omega), List.drop_of_length_le (by rw [numB_len]; omega)]
    rfl
  · simp only [show ¬ ((7 : Int) = 1 ∨ (7 : Int) = 6) from by decide, show ¬ ((7 : Int) = 2) from by decide, show ¬ ((7 : Int) = 3 ∨ (7 : Int) = 4) from by decide, show ¬ ((7 : Int) = 5) from by decide, if_false, if_true, Bool.and_eq_true, decide_eq_true_eq] at h0
    obtain rfl := h0.1
    show oneR (7 :: (strB s.data.toList ++ t)) = _
    rw [oneR_txt_yes (.inr (.inr rfl)) (txtR_strB _ _) h]
    rfl
theorem valB_oneR {l t : List UInt8} {k n : Int} {s : List UInt8} (h : oneR l = some ((k, n, s), t)) : l = valB k n ⟨s.toArray⟩ ++ t ∧ mayB k n ⟨s.toArray⟩ = true ∧ (-9223372036854775808 ≤ n ∧ n ≤ 9223372036854775807) := by
  cases l with
  | nil => cases h
  | cons c r =>
    simp only [oneR] at h
    by_cases h2 : c = 2
    · rw [if_pos h2] at h
      cases r with
      | nil => cases h
      | cons d u =>
        simp only at h
        split at h
        · rename_i hm
          have hd := d.toNat_lt
          cases h
          refine ⟨?_, hm, by omega⟩
          rw [h2]
          show 2 :: d :: t = 2 :: UInt8.ofNat ((d.toNat : Int)).toNat :: t
          rw [Int.toNat_natCast, UInt8.ofNat_toNat]
        · cases h
    · rw [if_neg h2] at h
      by_cases h1 : c = 1 ∨ c = 5 ∨ c = 6
      · rw [if_pos h1] at h
        split at h
        · rename_i hm
          cases h
          refine ⟨?_, hm.2, numR_in r⟩
          have e : valB (c.toNat : Int) (numR r) ⟨#[]⟩ = c :: numB (numR r) := by
            rcases h1 with rfl | rfl | rfl <;> rfl
          show c :: r = valB (c.toNat : Int) (numR r) ⟨#[]⟩ ++ r.drop 8
          rw [e, numB_numR hm.1, List.cons_append, List.take_append_drop]
        · cases h
      · rw [if_neg h1] at h
        by_cases h3 : c = 3 ∨ c = 4 ∨ c = 7
        · rw [if_pos h3] at h
          cases hr : txtR r with
          | none => rw [hr] at h; cases h
          | some p =>
            obtain ⟨s', u⟩ := p
            rw [hr] at h
            simp only at h
            have h5 := strB_txtR hr
            split at h
            · rename_i hm
              cases h
              refine ⟨?_, hm, by omega⟩
              have e : valB (c.toNat : Int) 0 ⟨s.toArray⟩ = c :: strB s := by
                rcases h3 with rfl | rfl | rfl <;> rfl
              rw [e, h5]; rfl
            · cases h
        · rw [if_neg h3] at h; cases h

def cleanP (p : PartP) : PartP := if p.v = true then ⟨true, 0, p.k, p.m, p.s⟩ else ⟨false, p.n, 0, 0, ⟨#[]⟩⟩
theorem partR_partB {p : PartP} (hm : partMay p = true) (hk : partOk p) (t : List UInt8) : partR p.v (partB p ++ t) = some (cleanP p, t) := by
  obtain ⟨v, n, k, m, s⟩ := p
  obtain ⟨h1, h2⟩ := hk
  cases v
  · show (if 8 ≤ (numB n ++ t).length then some (PartP.mk false (numR (numB n ++ t)) 0 0 ⟨#[]⟩, (numB n ++ t).drop 8) else none) = _
    rw [if_pos (by rw [List.length_append, numB_len]; omega), numR_numB n h1, List.drop_append_of_le_length (by rw [numB_len]; omega), List.drop_of_length_le (by rw [numB_len]; omega)]
    rfl
  · show ((oneR (valB k m s ++ t)).map fun p => (PartP.mk true 0 p.1.1 p.1.2.1 ⟨p.1.2.2.toArray⟩, p.2)) = _
    have hm' : mayB k m s = true := by simpa [partMay] using hm
    rw [oneR_valB hm' h2]
    rfl
theorem partB_partR {v : Bool} {l t : List UInt8} {p : PartP} (h : partR v l = some (p, t)) : l = partB p ++ t ∧ partMay p = true ∧ partOk p := by
  unfold partR at h
  cases v
  · rw [if_neg (by decide)] at h
    split at h
    · rename_i h8
      cases h
      refine ⟨?_, rfl, numR_in l, by show (-9223372036854775808 : Int) ≤ 0 ∧ (0 : Int) ≤ 9223372036854775807; decide⟩
      show l = numB (numR l) ++ l.drop 8
      rw [numB_numR h8, List.take_append_drop]
    · cases h
  · rw [if_pos rfl] at h
    cases ho : oneR l with
    | none => rw [ho] at h; cases h
    | some x =>
      obtain ⟨⟨k, n, s⟩, u⟩ := x
      rw [ho] at h
      cases h
      obtain ⟨h1, h2, h3⟩ := valB_oneR ho
      refine ⟨h1, by simpa [partMay] using h2, by show (-9223372036854775808 : Int) ≤ 0 ∧ (0 : Int) ≤ 9223372036854775807; decide, h3⟩
theorem strB_ge : ∀ l : List UInt8, l.length + 2 ≤ (strB l).length
  | [] => by simp [strB]
  | c :: r => by
    have := strB_ge r
    unfold strB
    split <;> simp <;> omega
theorem partR_size {v : Bool} {l t : List UInt8} {p : PartP} (h : partR v l = some (p, t)) : p.s.size ≤ (partB p).length := by
  obtain ⟨_, hm, _⟩ := partB_partR h
  unfold partR at h
  cases v
  · rw [if_neg (by decide)] at h
    split at h
    · cases h; exact Nat.zero_le _
    · cases h
  · rw [if_pos rfl] at h
    cases ho : oneR l with
    | none => rw [ho] at h; cases h
    | some x =>
      obtain ⟨⟨k, n, s⟩, u⟩ := x
      rw [ho] at h
      cases h
      have hm' : mayB k n ⟨s.toArray⟩ = true := by simpa [partMay] using hm
      show s.toArray.size ≤ (valB k n ⟨s.toArray⟩).length
      have hs := strB_ge s
      unfold valB tailB
      unfold mayB at hm'
      rw [List.length_cons]
      have e : s.toArray.size = s.length := by simp
      by_cases h2 : k = 2
      · rw [if_neg (by omega), if_pos h2, Bool.and_eq_true] at hm'
        have := of_decide_eq_true hm'.1
        have e2 : s.toArray.size = 0 := this
        omega
      · rw [if_neg h2]
        by_cases h1 : k = 1 ∨ k = 5 ∨ k = 6
        · have e2 : s.toArray.size = 0 := by
            by_cases h3 : k = 1 ∨ k = 6
            · rw [if_pos h3] at hm'; exact of_decide_eq_true hm'
            · rw [if_neg h3, if_neg h2, if_neg (by omega), if_pos (by omega), Bool.and_eq_true] at hm'; exact of_decide_eq_true hm'.1
          omega
        · rw [if_neg h1]
          show _ ≤ (strB s).length + 1
          omega
end Go.Proofs.Ytefekkcmoambhaa

/-
  CONTRACT of Key (the program's).
-/
namespace Go.Proofs.Ytefekkcmoambhaa
open Go.RowKit Go.Shelf

theorem data_len (s : ByteArray) : s.data.toList.length = s.size := Array.length_toList
theorem partB_len (p : PartP) : (partB p).length ≤ 2 * (10 + p.s.size) := by
  unfold partB valB tailB
  have h1 := strB_len p.s.data.toList
  rw [data_len] at h1
  split
  · split
    · simp; omega
    · split
      · rw [List.length_cons, numB_len]; omega
      · rw [List.length_cons]; omega
  · rw [numB_len]; omega
theorem keyB_len (l : List PartP) : (keyB l).length ≤ 2 * costP l := by
  induction l with
  | nil => simp [keyB, costP]
  | cons p r ih =>
    have h := partB_len p
    unfold keyB costP at ih ⊢
    rw [List.flatMap_cons, List.length_append, List.map_cons, List.sum_cons]
    omega
theorem keyB_take {l : List PartP} {j : Nat} (h : j < l.length) : keyB (l.take (j + 1)) = keyB (l.take j) ++ partB l[j] := by
  unfold keyB
  rw [List.take_succ_eq_append_getElem h, List.flatMap_append]
  simp
theorem costP_mono (l : List PartP) (j : Nat) : costP (l.take j) ≤ costP l := by
  have h : costP l = costP (l.take j) + costP (l.drop j) := by
    unfold costP
    rw [← List.sum_append, ← List.map_append, List.take_append_drop]
  omega
theorem costP_mem {l : List PartP} {p : PartP} (h : p ∈ l) : 10 + p.s.size ≤ costP l := by
  induction l with
  | nil => cases h
  | cons q r ih =>
    unfold costP at ih ⊢
    rw [List.map_cons, List.sum_cons]
    rcases List.mem_cons.1 h with rfl | h
    · omega
    · have := ih h; omega
theorem costP_len (l : List PartP) : l.length * 10 ≤ costP l := by
  induction l with
  | nil => simp [costP]
  | cons q r ih =>
    unfold costP at ih ⊢
    rw [List.map_cons, List.sum_cons, List.length_cons]
    omega
theorem all_take {l : List PartP} {j : Nat} (h : j < l.length) : (l.take (j + 1)).all partMay = ((l.take j).all partMay && partMay l[j]) := by
  rw [List.take_succ_eq_append_getElem h, List.all_append]; simp
theorem all_no {l : List PartP} {j : Nat} (h : j < l.length) (hn : partMay l[j] = false) : l.all partMay = false := by
  rw [List.all_eq_false]
  exact ⟨l[j], List.getElem_mem h, by rw [hn]; simp⟩

/-- What Key answers. -/
def KeyEnd (W : World) (l : List PartP) (e : Ending) (w' : World) : Prop :=
  (l.all partMay = true ∧ (∃ v, e = .returned (.tuple #[v, .int .i64 0]) ∧ OwnB w' W.heap.size v (keyB l)) ∧ Below W.heap.size W w') ∨
  (l.all partMay = false ∧ e = .returned (.tuple #[.slice none 0 0, .int .i64 10]) ∧ Below W.heap.size W w')
theorem keyEnd_yes {W w' : World} {l : List PartP} {v : Value} (hm : l.all partMay = true) (ho : OwnB w' W.heap.size v (keyB l)) (hb : Below W.heap.size W w') : KeyEnd W l (.returned (.tuple #[v, .int .i64 0])) w' := .inl ⟨hm, ⟨v, rfl, ho⟩, hb⟩
theorem keyEnd_no {W w' : World} {l : List PartP} (hm : l.all partMay = false) (hb : Below W.heap.size W w') : KeyEnd W l (.returned (.tuple #[.slice none 0 0, .int .i64 10])) w' := .inr ⟨hm, rfl, hb⟩

/-- a part's own block -/
def PartBox (W : World) (b : Nat) (p : PartP) : Prop := W.heap[b]? = some (.cells #[.bool p.v, .int .i64 p.n, .int .i64 p.k, .int .i64 p.m, .string p.s] 58 (0, 0))
theorem PartBox.cell {W : World} {b : Nat} {p : PartP} (h : PartBox W b p) (j : Nat) : W.cell? ⟨b, j, none⟩ = (#[Value.bool p.v, .int .i64 p.n, .int .i64 p.k, .int .i64 p.m, .string p.s])[j]? := by unfold PartBox at h; simp [World.cell?, h]
theorem partBox_new (W : World) (p : PartP) : PartBox (W.alloc (.cells #[.bool p.v, .int .i64 p.n, .int .i64 p.k, .int .i64 p.m, .string p.s] 58)) W.heap.size p := heap_alloc_new W _
theorem PartBox.next {W W' : World} {b B : Nat} {p : PartP} (h : PartBox W b p) (hb : Below B W W') (hB : b < B) : PartBox W' b p := (hb.block b hB).trans h

set_option maxRecDepth 100000 in
set_option maxHeartbeats 4000000 in
theorem key_big (A : Option Addr) (c : Nat) (l : List PartP) (W : World) (hs : SlP W W.heap.size A l) (hl : costP l ≤ 7000) (hok : ∀ p ∈ l, partOk p) :
    Calls Try.prog 73 #[.slice A l.length c] W (KeyEnd W l) := by
  have HOK := Lib.hid hok
  have hll := costP_len l
  have HLL := Lib.hid hll
  have HC := Lib.hid hl
  have hl500 : l.length ≤ 700 := by omega
  clear hok hll hl
  go_enter Try.func73, Try.ntmps73
  go_wp2
  go_loopg [4, 6, 9] l.length (fun g x u y wr => ∃ (j : Nat) (v : Value), x = v ∧ y = .int .i64 j ∧ j + g = l.length ∧ Hid (OwnB wr W.heap.size v (keyB (l.take j))) ∧ Hid (Below W.heap.size W wr) ∧ W.heap.size ≤ wr.heap.size ∧ Hid ((l.take j).all partMay = true))
  case atStart => exact ⟨0, _, rfl, rfl, by omega, ownB_nil _ _, Below.refl _ _, Nat.le_refl _, rfl⟩
  case round =>
    obtain ⟨j, v, rfl, rfl, hj, HO, HB, hsz, HM⟩ := hrel
    cases gk with
    | zero =>
      have hjz : ¬ ((j : Int) < (l.length : Int)) := by omega
      have ht : l.take j = l := List.take_of_length_le (by omega)
      rw [ht] at HO HM
      clear ht
      go_wp2
      go_ret2
      exact keyEnd_yes HM.out HO.out HB.out
    | succ g =>
      have hjz : (j : Int) < (l.length : Int) := by omega
      have hjn : j < l.length := by omega
      have hpk := HOK.out _ (List.getElem_mem hjn)
      have hcm := costP_mem (List.getElem_mem hjn)
      have hkl : (keyB (l.take j)).length ≤ 14000 := by
        have h1 := keyB_len (l.take j)
        have h2 := costP_mono l j
        have h3 := HC.out
        omega
      have hps : l[j].s.size ≤ 7000 := by have := HC.out; omega
      have HKT := Lib.hid (keyB_take hjn)
      have HAT := Lib.hid (all_take hjn)
      have HAN := Lib.hid (fun h => all_no hjn h)
      obtain ⟨b, o, rfl, hblt, hp⟩ := (hs.next HB.out (Nat.le_refl _)).at_ hjn
      obtain ⟨p, hpe⟩ : ∃ p, l[j] = p := ⟨_, rfl⟩
      rw [hpe] at hp hpk hps HKT HAT HAN
      have h0 := hp.c0
      have h1 := hp.c1
      have h2 := hp.c2
      have h3 := hp.c3
      have h4 := hp.c4
      have HPK := Lib.hid hpk
      clear hp hpk hcm hpe
      cases hv : p.v
      · rw [hv] at h0
        have HPB : Hid (partB p = numB p.n) := by show _ = _; unfold partB; rw [hv]; rfl
        have HPM : Hid (partMay p = true) := by show _ = _; unfold partMay; rw [hv]; rfl
        go_wp2_with fail
        refine (appendNumber_any W.heap.size _ _ p.n _ (HO.out.alloc _) (by omega) (by simp; omega) HPK.out.1.1 HPK.out.1.2).mono ?_
        rintro e w1 ⟨v1, rfl, ho1, hb1⟩
        have HO1 := Lib.hid ho1
        have HB1 := Lib.hid ((HB.out.alloc hsz _).trans hb1)
        clear ho1 hb1 h0 h1 h2 h3 h4
        go_wp2
        go_roundg g
        case measure => omega
        case rel => exact ⟨j + 1, v1, rfl, by go_num, by omega, (by show OwnB _ _ _ _; rw [HKT.out, HPB.out]; exact HO1.out), HB1.out, HB1.out.size, (by show _ = _; rw [HAT.out, HM.out, HPM.out]; rfl)⟩
      · rw [hv] at h0
        have HPB : Hid (partB p = valB p.k p.m p.s) := by show _ = _; unfold partB; rw [hv]; rfl
        have HPM : Hid (partMay p = mayB p.k p.m p.s) := by show _ = _; unfold partMay; rw [hv]; rfl
        have HX := Lib.hid (partBox_new wr p)
        have hsx : p.s.size ≤ maxLen := by unfold maxLen; omega
        cases hm : mayB p.k p.m p.s
        · have HMB := Lib.hid hm
          clear hm
          go_wp2_with fail
          refine (check_no _ hsx HMB.out).mono ?_
          rintro e w1 ⟨rfl, hb1⟩
          have HB1 := Lib.hid ((HB.out.alloc hsz (.cells #[.bool true, .int .i64 p.n, .int .i64 p.k, .int .i64 p.m, .string p.s] 58)).trans (hb1.mono (by simp; omega)))
          clear hb1 h0 h1 h2 h3 h4
          go_wp2
          go_ret2
          exact keyEnd_no (HAN.out (by rw [HPM.out, HMB.out])) HB1.out
        · have HMB := Lib.hid hm
          clear hm
          go_wp2_with fail
          refine (check_yes _ hsx HMB.out).mono ?_
          rintro e w1 ⟨rfl, hb1⟩
          have hx1 := HX.out
          unfold PartBox at hx1
          rw [hv] at hx1
          have HX1 : Hid (w1.heap[wr.heap.size]? = some (.cells #[.bool true, .int .i64 p.n, .int .i64 p.k, .int .i64 p.m, .string p.s] 58 (0, 0))) := (hb1.block wr.heap.size (by simp)).trans hx1
          have g2 : w1.cell? ⟨wr.heap.size, 2, none⟩ = some (.int .i64 p.k) := by simp [World.cell?, HX1.out]
          have g3 : w1.cell? ⟨wr.heap.size, 3, none⟩ = some (.int .i64 p.m) := by simp [World.cell?, HX1.out]
          have g4 : w1.cell? ⟨wr.heap.size, 4, none⟩ = some (.string p.s) := by simp [World.cell?, HX1.out]
          have HO1 := Lib.hid ((HO.out.alloc (.cells #[.bool true, .int .i64 p.n, .int .i64 p.k, .int .i64 p.m, .string p.s] 58)).next hb1)
          have HB1 := Lib.hid ((HB.out.alloc hsz (.cells #[.bool true, .int .i64 p.n, .int .i64 p.k, .int .i64 p.m, .string p.s] 58)).trans (hb1.mono (by simp; omega)))
          clear hb1 h0 h1 h2 h3 h4 hx1
          go_wp2_with fail
          refine (appendValue_any W.heap.size _ _ p.k p.m p.s _ HO1.out (by omega) HB1.out.size (by have := mayB_size HMB.out; omega) HPK.out.2.1 HPK.out.2.2 HMB.out).mono ?_
          rintro e w2 ⟨v2, rfl, ho2, hb2⟩
          have HO2 := Lib.hid ho2
          have HB2 := Lib.hid (HB1.out.trans hb2)
          clear ho2 hb2 g2 g3 g4
          go_wp2
          go_roundg g
          case measure => omega
          case rel => exact ⟨j + 1, v2, rfl, by go_num, by omega, (by show OwnB _ _ _ _; rw [HKT.out, HPB.out]; exact HO2.out), HB2.out, HB2.out.size, (by show _ = _; rw [HAT.out, HM.out, HPM.out, HMB.out]; rfl)⟩

theorem key_any (A : Option Addr) (c : Nat) (l : List PartP) (W : World) (hs : SlP W W.heap.size A l) (hl : costP l ≤ 5000) (hok : ∀ p ∈ l, partOk p) :
    Calls Try.prog 73 #[.slice A l.length c] W (KeyEnd W l) := key_big A c l W hs (by omega) hok
end Go.Proofs.Ytefekkcmoambhaa
