/-
  PLAIN FACTS: what is written is read as it was; what is read, written, are the bytes.
-/
import Derived.Test.YtkoknogefmfmnaaORdPure
namespace Go.Proofs.Ytkoknogefmfmnaa
open Go.RowKit

theorem numR_numB (n : Int) (hn : -9223372036854775808 ≤ n ∧ n ≤ 9223372036854775807) (t : List UInt8) : numR (numB n ++ t) = n := by
  unfold numR numB
  rw [List.take_append_of_le_length (by rw [be8_len]; omega), List.take_of_length_le (by rw [be8_len]; omega), horN_be8 _ (by unfold turnN; omega)]
  unfold turnN
  omega
theorem be8_horN : ∀ {l : List UInt8}, l.length = 8 → be8 (horN l) = l
  | [a, b, c, d, e, f, g, h], _ => by
    have ha := a.toNat_lt; have hb := b.toNat_lt; have hc := c.toNat_lt; have hd := d.toNat_lt
    have he := e.toNat_lt; have hf := f.toNat_lt; have hg := g.toNat_lt; have hh := h.toNat_lt
    unfold be8
    simp only [horN, List.length_cons, List.length_nil, Nat.zero_add, Nat.reduceAdd, Nat.reducePow]
    have k : ∀ (x : UInt8) (v : Nat), v % 256 = x.toNat → UInt8.ofNat v = x := fun x v h => UInt8.toNat_inj.1 (by rw [byteN, h])
    rw [k a _ (by omega), k b _ (by omega), k c _ (by omega), k d _ (by omega), k e _ (by omega), k f _ (by omega), k g _ (by omega), k h _ (by omega)]
theorem numB_numR {l : List UInt8} (h : 8 ≤ l.length) : numB (numR l) = l.take 8 := by
  have hl : (l.take 8).length = 8 := by rw [List.length_take]; omega
  unfold numB numR turnN
  rw [show ((horN (l.take 8) : Int) - 9223372036854775808 + 9223372036854775808).toNat = horN (l.take 8) from by omega, be8_horN hl]
theorem txtR_strB : ∀ (s t : List UInt8), txtR (strB s ++ t) = some (s, t)
  | [], t => by simp [strB, txtR]
  | c :: r, t => by
    unfold strB
    by_cases hc : c = 0
    · rw [if_pos hc]
      subst hc
      have ih := txtR_strB r t
      simp only [List.cons_append, txtR, if_true]
      rw [if_neg (by decide), ih]
      rfl
    · rw [if_neg hc]
      have ih := txtR_strB r t
      obtain ⟨d, u, hd⟩ : ∃ d u, strB r ++ t = d :: u := by
        cases hh : strB r ++ t with
        | nil => rw [hh] at ih; cases ih
        | cons d u => exact ⟨d, u, rfl⟩
      rw [List.cons_append, hd, txtR, if_neg hc, ← hd, ih]
      rfl
theorem strB_txtR : ∀ {l s u : List UInt8}, txtR l = some (s, u) → l = strB s ++ u
  | [], _, _, h => by cases h
  | [_], _, _, h => by cases h
  | c :: d :: r, s, u, h => by
    rw [txtR] at h
    by_cases hc : c = 0
    · rw [if_pos hc] at h
      by_cases h1 : d = 1
      · rw [if_pos h1] at h
        cases h
        rw [hc, h1]; rfl
      · rw [if_neg h1] at h
        by_cases h2 : d = 255
        · rw [if_pos h2] at h
          cases hr : txtR r with
          | none => rw [hr] at h; cases h
          | some p =>
            obtain ⟨s', u'⟩ := p
            rw [hr] at h
            have := strB_txtR hr
            cases h
            rw [hc, h2, this]
            simp [strB]
        · rw [if_neg h2] at h; cases h
    · rw [if_neg hc] at h
      cases hr : txtR (d :: r) with
      | none => rw [hr] at h; cases h
      | some p =>
        obtain ⟨s', u'⟩ := p
        rw [hr] at h
        have := strB_txtR hr
        cases h
        rw [this]
        simp [strB, hc]

theorem mayB_kind {k n : Int} {s : ByteArray} (h : mayB k n s = true) : k = 1 ∨ k = 2 ∨ k = 3 ∨ k = 4 ∨ k = 5 ∨ k = 6 ∨ k = 7 := by
  unfold mayB at h
  by_cases h1 : k = 1 ∨ k = 6; · omega
  by_cases h2 : k = 2; · omega
  by_cases h3 : k = 3 ∨ k = 4; · omega
  by_cases h5 : k = 5; · omega
  by_cases h7 : k = 7; · omega
  rw [if_neg h1, if_neg h2, if_neg h3, if_neg h5, if_neg h7] at h
  cases h
theorem mayB_size {k n : Int} {s : ByteArray} (h : mayB k n s = true) : s.size ≤ 1000 := by
  unfold mayB at h
  by_cases h1 : k = 1 ∨ k = 6
  · rw [if_pos h1] at h; have := of_decide_eq_true h; omega
  rw [if_neg h1] at h
  by_cases h2 : k = 2
  · rw [if_pos h2, Bool.and_eq_true] at h; have := of_decide_eq_true h.1; omega
  rw [if_neg h2] at h
  by_cases h3 : k = 3 ∨ k = 4
  · rw [if_pos h3, Bool.and_eq_true] at h; exact of_decide_eq_true h.2
  rw [if_neg h3] at h
  by_cases h5 : k = 5
  · rw [if_pos h5, Bool.and_eq_true] at h; have := of_decide_eq_true h.1; omega
  rw [if_neg h5] at h
  by_cases h7 : k = 7
  · rw [if_pos h7, Bool.and_eq_true] at h
    have h8 := h.2
    unfold wordB wordL at h8
    have e : s.data.toList.length = s.size := Array.length_toList
    cases hd : s.data.toList with
    | nil => rw [hd] at h8; cases h8
    | cons c r =>
      rw [hd] at h8 e
      simp only [Bool.and_eq_true] at h8
      have := of_decide_eq_true h8.1.1
      rw [List.length_cons] at e
      omega
  rw [if_neg h7] at h
  cases h
theorem empty_of {s : ByteArray} (h : s.size = 0) : s = ⟨#[]⟩ := by
  obtain ⟨d⟩ := s
  have : d.size = 0 := h
  rw [Array.eq_empty_of_size_eq_zero this]

theorem oneR_valB {k n : Int} {s : ByteArray} (h : mayB k n s = true) (hn : -9223372036854775808 ≤ n ∧ n ≤ 9223372036854775807) (t : List UInt8) : oneR (valB k n s ++ t) = some ((k, n, s.data.toList), t) := by
  have h0 := h
  unfold mayB at h0
  rcases mayB_kind h with rfl | rfl | rfl | rfl | rfl | rfl | rfl
  · obtain rfl := empty_of (of_decide_eq_true (by simpa using h0))
    show oneR (1 :: (numB n ++ t)) = _
    have e := numR_numB n hn t
    rw [oneR_num_yes (c := 1) (.inl rfl) (by rw [List.length_append, numB_len]; omega) (by rw [e]; exact h), e, List.drop_append_of_le_length (by rw [numB_len]; omega), List.drop_of_length_le (by rw [numB_len]; omega)]
    rfl
  · simp only [show ¬ ((2 : Int) = 1 ∨ (2 : Int) = 6) from by decide, if_false, if_true, Bool.and_eq_true, decide_eq_true_eq] at h0
    obtain rfl := empty_of h0.1
    show oneR (2 :: UInt8.ofNat n.toNat :: t) = _
    have e : ((UInt8.ofNat n.toNat).toNat : Int) = n := by
      rw [byteN]
      rcases h0.2 with rfl | rfl <;> rfl
    rw [oneR_two_yes (by rw [e]; exact h), e]
  · simp only [show ¬ ((3 : Int) = 1 ∨ (3 : Int) = 6) from by decide, show ¬ ((3 : Int) = 2) from by decide, if_false, true_or, if_true, Bool.and_eq_true, decide_eq_true_eq] at h0
    obtain rfl := h0.1
    show oneR (3 :: (strB s.data.toList ++ t)) = _
    rw [oneR_txt_yes (.inl rfl) (txtR_strB _ _) h]
    rfl
  · simp only [show ¬ ((4 : Int) = 1 ∨ (4 : Int) = 6) from by decide, show ¬ ((4 : Int) = 2) from by decide, if_false, or_true, if_true, Bool.and_eq_true, decide_eq_true_eq] at h0
    obtain rfl := h0.1
    show oneR (4 :: (strB s.data.toList ++ t)) = _
    rw [oneR_txt_yes (.inr (.inl rfl)) (txtR_strB _ _) h]
    rfl
  · simp only [show ¬ ((5 : Int) = 1 ∨ (5 : Int) = 6) from by decide, show ¬ ((5 : Int) = 2) from by decide, show ¬ ((5 : Int) = 3 ∨ (5 : Int) = 4) from by decide, if_false, if_true, Bool.and_eq_true, decide_eq_true_eq] at h0
    obtain rfl := empty_of h0.1
    show oneR (5 :: (numB n ++ t)) = _
    have e := numR_numB n hn t
    rw [oneR_num_yes (c := 5) (.inr (.inl rfl)) (by rw [List.length_append, numB_len]; omega) (by rw [e]; exact h), e, List.drop_append_of_le_length (by rw [numB_len]; omega), List.drop_of_length_le (by rw [numB_len]; omega)]
    rfl
  · obtain rfl := empty_of (of_decide_eq_true (by simpa using h0))
    show oneR (6 :: (numB n ++ t)) = _
    have e := numR_numB n hn t
    rw [oneR_num_yes (c := 6) (.inr (.inr rfl)) (by rw [List.length_append, numB_len]; omega) (by rw [e]; exact h), e, List.drop_append_of_le_length (by rw [numB_len]; omega), List.drop_of_length_le (by rw [numB_len]; omega)]
    rfl
  · simp only [show ¬ ((7 : Int) = 1 ∨ (7 : Int) = 6) from by decide, show ¬ ((7 : Int) = 2) from by decide, show ¬ ((7 : Int) = 3 ∨ (7 : Int) = 4) from by decide, show ¬ ((7 : Int) = 5) from by decide, if_false, if_true, Bool.and_eq_true, decide_eq_true_eq] at h0
    obtain rfl := h0.1
    show oneR (7 :: (strB s.data.toList ++ t)) = _
    rw [oneR_txt_yes (.inr (.inr rfl)) (txtR_strB _ _) h]
    rfl
theorem valB_oneR {l t : List UInt8} {k n : Int} {s : List UInt8} (h : oneR l = some ((k, n, s), t)) : l = valB k n ⟨s.toArray⟩ ++ t ∧ mayB k n ⟨s.toArray⟩ = true ∧ (-9223372036854775808 ≤ n ∧ n ≤ 9223372036854775807) := by
  cases l with
  | nil => cases h
  | cons c r =>
    simp only [oneR] at h
    by_cases h2 : c = 2
    · rw [if_pos h2] at h
      cases r with
      | nil => cases h
      | cons d u =>
        simp only at h
        split at h
        · rename_i hm
          have hd := d.toNat_lt
          cases h
          refine ⟨?_, hm, by omega⟩
          rw [h2]
          show 2 :: d :: t = 2 :: UInt8.ofNat ((d.toNat : Int)).toNat :: t
          rw [Int.toNat_natCast, UInt8.ofNat_toNat]
        · cases h
    · rw [if_neg h2] at h
      by_cases h1 : c = 1 ∨ c = 5 ∨ c = 6
      · rw [if_pos h1] at h
        split at h
        · rename_i hm
          cases h
          refine ⟨?_, hm.2, numR_in r⟩
          have e : valB (c.toNat : Int) (numR r) ⟨#[]⟩ = c :: numB (numR r) := by
            rcases h1 with rfl | rfl | rfl <;> rfl
          show c :: r = valB (c.toNat : Int) (numR r) ⟨#[]⟩ ++ r.drop 8
          rw [e, numB_numR hm.1, List.cons_append, List.take_append_drop]
        · cases h
      · rw [if_neg h1] at h
        by_cases h3 : c = 3 ∨ c = 4 ∨ c = 7
        · rw [if_pos h3] at h
          cases hr : txtR r with
          | none => rw [hr] at h; cases h
          | some p =>
            obtain ⟨s', u⟩ := p
            rw [hr] at h
            simp only at h
            have h5 := strB_txtR hr
            split at h
            · rename_i hm
              cases h
              refine ⟨?_, hm, by omega⟩
              have e : valB (c.toNat : Int) 0 ⟨s.toArray⟩ = c :: strB s := by
                rcases h3 with rfl | rfl | rfl <;> rfl
              rw [e, h5]; rfl
            · cases h
        · rw [if_neg h3] at h; cases h

def cleanP (p : PartP) : PartP := if p.v = true then ⟨true, 0, p.k, p.m, p.s⟩ else ⟨false, p.n, 0, 0, ⟨#[]⟩⟩
theorem partR_partB {p : PartP} (hm : partMay p = true) (hk : partOk p) (t : List UInt8) : partR p.v (partB p ++ t) = some (cleanP p, t) := by
  obtain ⟨v, n, k, m, s⟩ := p
  obtain ⟨h1, h2⟩ := hk
  cases v
  · show (if 8 ≤ (numB n ++ t).length then some (PartP.mk false (numR (numB n ++ t)) 0 0 ⟨#[]⟩, (numB n ++ t).drop 8) else none) = _
    rw [if_pos (by rw [List.length_append, numB_len]; omega), numR_numB n h1, List.drop_append_of_le_length (by rw [numB_len]; omega), List.drop_of_length_le (by rw [numB_len]; omega)]
    rfl
  · show ((oneR (valB k m s ++ t)).map fun p => (PartP.mk true 0 p.1.1 p.1.2.1 ⟨p.1.2.2.toArray⟩, p.2)) = _
    have hm' : mayB k m s = true := by simpa [partMay] using hm
    rw [oneR_valB hm' h2]
    rfl
theorem partB_partR {v : Bool} {l t : List UInt8} {p : PartP} (h : partR v l = some (p, t)) : l = partB p ++ t ∧ partMay p = true ∧ partOk p := by
  unfold partR at h
  cases v
  · rw [if_neg (by decide)] at h
    split at h
    · rename_i h8
      cases h
      refine ⟨?_, rfl, numR_in l, by show (-9223372036854775808 : Int) ≤ 0 ∧ (0 : Int) ≤ 9223372036854775807; decide⟩
      show l = numB (numR l) ++ l.drop 8
      rw [numB_numR h8, List.take_append_drop]
    · cases h
  · rw [if_pos rfl] at h
    cases ho : oneR l with
    | none => rw [ho] at h; cases h
    | some x =>
      obtain ⟨⟨k, n, s⟩, u⟩ := x
      rw [ho] at h
      cases h
      obtain ⟨h1, h2, h3⟩ := valB_oneR ho
      refine ⟨h1, by simpa [partMay] using h2, by show (-9223372036854775808 : Int) ≤ 0 ∧ (0 : Int) ≤ 9223372036854775807; decide, h3⟩
theorem strB_ge : ∀ l : List UInt8, l.length + 2 ≤ (strB l).length
  | [] => by simp [strB]
  | c :: r => by
    have := strB_ge r
    unfold strB
    split <;> simp <;> omega
theorem partR_size {v : Bool} {l t : List UInt8} {p : PartP} (h : partR v l = some (p, t)) : p.s.size ≤ (partB p).length := by
  obtain ⟨_, hm, _⟩ := partB_partR h
  unfold partR at h
  cases v
  · rw [if_neg (by decide)] at h
    split at h
    · cases h; exact Nat.zero_le _
    · cases h
  · rw [if_pos rfl] at h
    cases ho : oneR l with
    | none => rw [ho] at h; cases h
    | some x =>
      obtain ⟨⟨k, n, s⟩, u⟩ := x
      rw [ho] at h
      cases h
      have hm' : mayB k n ⟨s.toArray⟩ = true := by simpa [partMay] using hm
      show s.toArray.size ≤ (valB k n ⟨s.toArray⟩).length
      have hs := strB_ge s
      unfold valB tailB
      unfold mayB at hm'
      rw [List.length_cons]
      have e : s.toArray.size = s.length := by simp
      by_cases h2 : k = 2
      · rw [if_neg (by omega), if_pos h2, Bool.and_eq_true] at hm'
        have := of_decide_eq_true hm'.1
        have e2 : s.toArray.size = 0 := this
        omega
      · rw [if_neg h2]
        by_cases h1 : k = 1 ∨ k = 5 ∨ k = 6
        · have e2 : s.toArray.size = 0 := by
            by_cases h3 : k = 1 ∨ k = 6
            · rw [if_pos h3] at hm'; exact of_decide_eq_true hm'
            · rw [if_neg h3, if_neg h2, if_neg (by omega), if_pos (by omega), Bool.and_eq_true] at hm'; exact of_decide_eq_true hm'.1
          omega
        · rw [if_neg h1]
          show _ ≤ (strB s).length + 1
          omega
end Go.Proofs.Ytkoknogefmfmnaa
