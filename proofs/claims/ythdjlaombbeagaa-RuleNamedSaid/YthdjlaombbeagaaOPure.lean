/-
  PLAIN FUNCTIONS (no program): bytes of numbers, values, keys; how they stand.
-/
import Derived.Test.YthdjlaombbeagaaPure
namespace Go.Proofs.Ythdjlaombbeagaa
open Go.RowKit

/-- eight bytes of a number, the highest first -/
def be8 (v : Nat) : List UInt8 := [UInt8.ofNat (v / 72057594037927936), UInt8.ofNat (v / 281474976710656), UInt8.ofNat (v / 1099511627776), UInt8.ofNat (v / 4294967296), UInt8.ofNat (v / 16777216), UInt8.ofNat (v / 65536), UInt8.ofNat (v / 256), UInt8.ofNat v]
/-- a number with its sign turned -/
def turnN (n : Int) : Nat := (n + 9223372036854775808).toNat
def numB (n : Int) : List UInt8 := be8 (turnN n)
def strB : List UInt8 → List UInt8
  | [] => [0, 1]
  | c :: r => if c = 0 then 0 :: 255 :: strB r else c :: strB r
/-- what stands behind a value's kind -/
def tailB (k n : Int) (s : ByteArray) : List UInt8 := if k = 2 then [UInt8.ofNat n.toNat] else if k = 1 ∨ k = 5 ∨ k = 6 then numB n else strB s.data.toList
def valB (k n : Int) (s : ByteArray) : List UInt8 := UInt8.ofNat k.toNat :: tailB k n s

theorem be8_len (v : Nat) : (be8 v).length = 8 := rfl
theorem numB_len (n : Int) : (numB n).length = 8 := rfl
theorem strB_len : ∀ l : List UInt8, (strB l).length ≤ 2 * l.length + 2
  | [] => by simp [strB]
  | c :: r => by
    have := strB_len r
    unfold strB
    split <;> simp <;> omega

theorem byteN (v : Nat) : (UInt8.ofNat v).toNat = v % 256 := by rw [UInt8.toNat_ofNat']
theorem ordL_cons (x y : UInt8) (l r : List UInt8) : ordL (x :: l) (y :: r) = if x.toNat < y.toNat then -1 else if y.toNat < x.toNat then 1 else ordL l r := by rw [ordL]
theorem ordL_zero {l r : List UInt8} : ordL l r = 0 ↔ l = r := by
  constructor
  · intro h
    have h1 := less_ord l r
    cases hb : Op.bytesLess l r with
    | true => have := h1.1 hb; omega
    | false =>
      cases he : (l == r) with
      | false => have := h1.2.1 hb he; omega
      | true => exact eq_of_beq he
  · rintro rfl; exact ord_self l

/-- what bytes stand for -/
def horN : List UInt8 → Nat
  | [] => 0
  | c :: r => c.toNat * 256 ^ r.length + horN r
theorem horN_lt : ∀ l : List UInt8, horN l < 256 ^ l.length
  | [] => by simp [horN]
  | c :: r => by
    have ih := horN_lt r
    have hc : c.toNat < 256 := c.toNat_lt
    have h1 : (c.toNat + 1) * 256 ^ r.length ≤ 256 * 256 ^ r.length := Nat.mul_le_mul_right _ (by omega)
    rw [Nat.add_mul, Nat.one_mul] at h1
    show c.toNat * 256 ^ r.length + horN r < 256 ^ (r.length + 1)
    rw [Nat.pow_succ, Nat.mul_comm (256 ^ r.length) 256]
    omega
theorem hor_ord : ∀ (x y r r' : List UInt8), x.length = y.length → ordL (x ++ r) (y ++ r') = if horN x < horN y then -1 else if horN y < horN x then 1 else ordL r r'
  | [], [], r, r', _ => by simp [horN]
  | [], _ :: _, _, _, h => by simp at h
  | _ :: _, [], _, _, h => by simp at h
  | c :: x, d :: y, r, r', h => by
    have hl : x.length = y.length := by simpa using h
    have ih := hor_ord x y r r' hl
    have hx := horN_lt x
    have hy := horN_lt y
    rw [hl] at hx
    have e1 : horN (c :: x) = c.toNat * 256 ^ y.length + horN x := by rw [← hl]; rfl
    have e2 : horN (d :: y) = d.toNat * 256 ^ y.length + horN y := rfl
    simp only [List.cons_append, ordL_cons, ih]
    generalize horN (c :: x) = A at *
    generalize horN (d :: y) = B at *
    generalize 256 ^ y.length = P at *
    subst e1 e2
    by_cases h1 : c.toNat < d.toNat
    · have h2 : (c.toNat + 1) * P ≤ d.toNat * P := Nat.mul_le_mul_right _ h1
      rw [Nat.add_mul, Nat.one_mul] at h2
      rw [if_pos h1, if_pos (by omega)]
    · by_cases h3 : d.toNat < c.toNat
      · have h2 : (d.toNat + 1) * P ≤ c.toNat * P := Nat.mul_le_mul_right _ h3
        rw [Nat.add_mul, Nat.one_mul] at h2
        rw [if_neg h1, if_pos h3, if_neg (by omega), if_pos (by omega)]
      · have h4 : c.toNat = d.toNat := by omega
        rw [if_neg h1, if_neg h3, h4]
        by_cases h5 : horN x < horN y
        · rw [if_pos h5, if_pos (by omega)]
        · by_cases h6 : horN y < horN x
          · rw [if_neg h5, if_pos h6, if_neg (by omega), if_pos (by omega)]
          · rw [if_neg h5, if_neg h6, if_neg (by omega), if_neg (by omega)]
theorem horN_be8 (v : Nat) (h : v < 18446744073709551616) : horN (be8 v) = v := by
  unfold be8
  simp only [horN, byteN, List.length_cons, List.length_nil, Nat.zero_add, Nat.reduceAdd, Nat.reducePow]
  omega
theorem num_ord (a b : Nat) (ha : a < 18446744073709551616) (hb : b < 18446744073709551616) (r r' : List UInt8) :
    ordL (be8 a ++ r) (be8 b ++ r') = if a < b then -1 else if b < a then 1 else ordL r r' := by
  rw [hor_ord _ _ _ _ (by rw [be8_len, be8_len]), horN_be8 _ ha, horN_be8 _ hb]

theorem numB_ord (n m : Int) (hn : -9223372036854775808 ≤ n ∧ n ≤ 9223372036854775807) (hm : -9223372036854775808 ≤ m ∧ m ≤ 9223372036854775807) (r r' : List UInt8) :
    ordL (numB n ++ r) (numB m ++ r') = if ordI n m = 0 then ordL r r' else ordI n m := by
  unfold numB
  rw [num_ord _ _ (by unfold turnN; omega) (by unfold turnN; omega)]
  unfold ordI turnN
  repeat' split
  all_goals first | rfl | omega

theorem str_ord : ∀ (a b r r' : List UInt8), ordL (strB a ++ r) (strB b ++ r') = if ordL a b = 0 then ordL r r' else ordL a b
  | [], [], r, r' => by simp [strB, ordL]
  | [], c :: b, r, r' => by
    unfold strB
    split
    · simp [ordL]
    · rename_i h
      have : c.toNat ≠ 0 := fun e => h (UInt8.toNat_inj.1 (by simpa using e))
      have h0 : (0 : UInt8).toNat = 0 := rfl
      simp only [List.cons_append, ordL_cons, h0]
      rw [if_pos (by omega)]
      simp [ordL]
  | c :: a, [], r, r' => by
    unfold strB
    split
    · simp [ordL]
    · rename_i h
      have : c.toNat ≠ 0 := fun e => h (UInt8.toNat_inj.1 (by simpa using e))
      have h0 : (0 : UInt8).toNat = 0 := rfl
      simp only [List.cons_append, ordL_cons, h0]
      rw [if_neg (by omega), if_pos (by omega)]
      simp [ordL]
  | c :: a, d :: b, r, r' => by
    have ih := str_ord a b r r'
    have h0 : (0 : UInt8).toNat = 0 := rfl
    by_cases hc : c = 0
    · subst hc
      by_cases hd : d = 0
      · subst hd
        simp only [strB, if_true, List.cons_append, ordL_cons, Nat.lt_irrefl, if_false]
        exact ih
      · have : d.toNat ≠ 0 := fun e => hd (UInt8.toNat_inj.1 (by simpa using e))
        have hp : 0 < d.toNat := by omega
        simp [strB, hd, ordL_cons, hp]
    · have hcn : c.toNat ≠ 0 := fun e => hc (UInt8.toNat_inj.1 (by simpa using e))
      by_cases hd : d = 0
      · subst hd
        have hp : 0 < c.toNat := by omega
        simp [strB, hc, ordL_cons, hp]
      · simp only [strB, hc, hd, if_false, List.cons_append, ordL_cons]
        split
        · simp
        · split
          · simp
          · exact ih

theorem may_kind {k n : Int} {s : ByteArray} (h : mayB k n s = true) : 1 ≤ k ∧ k ≤ 7 := by
  unfold mayB at h
  by_cases h1 : 1 ≤ k ∧ k ≤ 7
  · exact h1
  · rw [if_neg (by omega), if_neg (by omega), if_neg (by omega), if_neg (by omega), if_neg (by omega)] at h
    cases h
theorem data_nil {s : ByteArray} (h : s.size = 0) : s.data.toList = [] := by
  rw [← List.length_eq_zero_iff]; exact h
theorem may_num {k n : Int} {s : ByteArray} (h : mayB k n s = true) (hk : k = 1 ∨ k = 5 ∨ k = 6) : s.size = 0 := by
  unfold mayB at h
  rcases hk with rfl | rfl | rfl
  · simpa using h
  · have : s.size = 0 ∧ (0 ≤ n ∧ n < 9007199254740992) := by simpa [-ByteArray.size_eq_zero_iff] using h
    exact this.1
  · simpa using h
theorem may_bool {n : Int} {s : ByteArray} (h : mayB 2 n s = true) : s.size = 0 ∧ (n = 0 ∨ n = 1) := by
  simpa [mayB] using h
theorem may_str {k n : Int} {s : ByteArray} (h : mayB k n s = true) (hk : k = 3 ∨ k = 4 ∨ k = 7) : n = 0 := by
  unfold mayB at h
  rcases hk with rfl | rfl | rfl
  · have := by simpa using h
    exact this.1
  · have := by simpa using h
    exact this.1
  · have := by simpa using h
    exact this.1

theorem val_ord {k n k' n' : Int} {s s' : ByteArray} (hm : mayB k n s = true) (hm' : mayB k' n' s' = true)
    (hn : -9223372036854775808 ≤ n ∧ n ≤ 9223372036854775807) (hn' : -9223372036854775808 ≤ n' ∧ n' ≤ 9223372036854775807) (r r' : List UInt8) :
    ordL (valB k n s ++ r) (valB k' n' s' ++ r') = if ordV k n s k' n' s' = 0 then ordL r r' else ordV k n s k' n' s' := by
  have hk := may_kind hm
  have hk' := may_kind hm'
  unfold valB
  simp only [List.cons_append, ordL_cons, byteN]
  unfold ordV
  by_cases h1 : k < k'
  · rw [if_pos (by omega)]
    have : ordI k k' = -1 := by unfold ordI; rw [if_pos h1]
    rw [this]; simp
  by_cases h2 : k' < k
  · rw [if_neg (by omega), if_pos (by omega)]
    have : ordI k k' = 1 := by unfold ordI; rw [if_neg h1, if_pos h2]
    rw [this]; simp
  obtain rfl : k = k' := by omega
  rw [if_neg (by omega), if_neg (by omega)]
  have hkk : ordI k k = 0 := ordI_zero.2 rfl
  rw [if_pos hkk]
  unfold tailB
  by_cases k2 : k = 2
  · subst k2
    rw [if_pos rfl, if_pos rfl]
    obtain ⟨hs, hn0⟩ := may_bool hm
    obtain ⟨hs', hn0'⟩ := may_bool hm'
    have hS : ordS s s' = 0 := by unfold ordS; rw [data_nil hs, data_nil hs']; rfl
    rw [hS]
    simp only [List.cons_append, List.nil_append, ordL_cons, byteN]
    unfold ordI
    rcases hn0 with rfl | rfl <;> rcases hn0' with rfl | rfl <;> simp
  · rw [if_neg k2, if_neg k2]
    by_cases hkn : k = 1 ∨ k = 5 ∨ k = 6
    · rw [if_pos hkn, if_pos hkn, numB_ord n n' hn hn']
      have hS : ordS s s' = 0 := by unfold ordS; rw [data_nil (may_num hm hkn), data_nil (may_num hm' hkn)]; rfl
      rw [hS]
      by_cases h0 : ordI n n' = 0
      · rw [if_pos h0, if_pos h0]; simp
      · rw [if_neg h0, if_neg h0, if_neg h0]
    · rw [if_neg hkn, if_neg hkn, str_ord]
      have e1 := may_str hm (by omega)
      have e2 := may_str hm' (by omega)
      subst e1 e2
      rfl

/-- a part of a key -/
structure PartP where
  v : Bool
  n : Int
  k : Int
  m : Int
  s : ByteArray
def partB (p : PartP) : List UInt8 := if p.v then valB p.k p.m p.s else numB p.n
def partMay (p : PartP) : Bool := !p.v || mayB p.k p.m p.s
def keyB (l : List PartP) : List UInt8 := l.flatMap partB
def partOk (p : PartP) : Prop := (-9223372036854775808 ≤ p.n ∧ p.n ≤ 9223372036854775807) ∧ (-9223372036854775808 ≤ p.m ∧ p.m ≤ 9223372036854775807)
def ordP (a b : PartP) : Int := if a.v then ordV a.k a.m a.s b.k b.m b.s else ordI a.n b.n
def ordK : List PartP → List PartP → Int
  | a :: l, b :: r => if ordP a b = 0 then ordK l r else ordP a b
  | _, _ => 0

theorem part_ord {a b : PartP} (hv : a.v = b.v) (ha : partMay a = true) (hb : partMay b = true) (oa : partOk a) (ob : partOk b) (r r' : List UInt8) :
    ordL (partB a ++ r) (partB b ++ r') = if ordP a b = 0 then ordL r r' else ordP a b := by
  unfold partB ordP
  rw [← hv]
  unfold partMay at ha hb
  rw [← hv] at hb
  cases h : a.v with
  | true =>
    rw [h] at ha hb
    simp only [if_true]
    exact val_ord (by simpa using ha) (by simpa using hb) oa.2 ob.2 r r'
  | false =>
    simp only [Bool.false_eq_true, if_false]
    exact numB_ord _ _ oa.1 ob.1 r r'

theorem key_ord : ∀ (a b : List PartP), a.map (·.v) = b.map (·.v) → (∀ p ∈ a, partMay p = true ∧ partOk p) → (∀ p ∈ b, partMay p = true ∧ partOk p) → ordL (keyB a) (keyB b) = ordK a b
  | [], [], _, _, _ => by simp [keyB, ordK, ordL]
  | [], _ :: _, h, _, _ => by simp at h
  | _ :: _, [], h, _, _ => by simp at h
  | p :: a, q :: b, h, ha, hb => by
    have ih := key_ord a b (by simp at h ⊢; exact h.2) (fun x hx => ha x (by simp [hx])) (fun x hx => hb x (by simp [hx]))
    have hp := ha p (by simp)
    have hq := hb q (by simp)
    have hv : p.v = q.v := by simp at h; exact h.1
    show ordL (partB p ++ keyB a) (partB q ++ keyB b) = _
    rw [part_ord hv hp.1 hq.1 hp.2 hq.2, ih, ordK]

/-- no value's bytes begin another one's -/
theorem val_apart {k n k' n' : Int} {s s' : ByteArray} (hm : mayB k n s = true) (hm' : mayB k' n' s' = true)
    (hn : -9223372036854775808 ≤ n ∧ n ≤ 9223372036854775807) (hn' : -9223372036854775808 ≤ n' ∧ n' ≤ 9223372036854775807) (h : valB k n s <+: valB k' n' s') : ordV k n s k' n' s' = 0 := by
  obtain ⟨t, ht⟩ := h
  have h1 := val_ord hm hm' hn hn' t []
  rw [ht, List.append_nil, ord_self] at h1
  by_cases h0 : ordV k n s k' n' s' = 0
  · exact h0
  · rw [if_neg h0] at h1; exact h1.symm

/-- the end of a beginning, from its front -/
def endF : List UInt8 → Option (List UInt8)
  | [] => none
  | c :: r => match endF r with
    | some e => some (c :: e)
    | none => if c = 255 then none else some [c + 1]
theorem endF_all : ∀ t : List UInt8, (∀ c ∈ t, c = 255) → endF t = none
  | [], _ => rfl
  | c :: r, h => by
    rw [endF, endF_all r (fun x hx => h x (by simp [hx]))]
    simp [h c (by simp)]
theorem endF_at : ∀ (p : List UInt8) (c : UInt8) (t : List UInt8), (∀ c ∈ t, c = 255) → c ≠ 255 → endF (p ++ c :: t) = some (p ++ [c + 1])
  | [], c, t, h, hc => by
    show endF (c :: t) = _
    rw [endF, endF_all t h]
    simp [hc]
  | d :: p, c, t, h, hc => by
    show endF (d :: (p ++ c :: t)) = _
    rw [endF, endF_at p c t h hc]
    rfl
theorem ordL_nil_right (l : List UInt8) : 0 ≤ ordL l [] := by cases l <;> simp [ordL]
theorem ordL_nil_left (l : List UInt8) : ordL [] l ≤ 0 := by cases l <;> simp [ordL]
theorem endF_within : ∀ (b x : List UInt8), b <+: x ↔ (ordL b x ≤ 0 ∧ ∀ e, endF b = some e → ordL x e < 0)
  | [], x => by simp [endF, ordL_nil_left]
  | c :: r, [] => by simp [ordL]
  | c :: r, d :: y => by
    have ih := endF_within r y
    have hc : c.toNat < 256 := c.toNat_lt
    have hd : d.toNat < 256 := d.toNat_lt
    have he : c = d ↔ c.toNat = d.toNat := UInt8.toNat_inj.symm
    rw [List.cons_prefix_cons, ih, he, ordL_cons]
    rw [endF]
    cases hr : endF r with
    | some e =>
      simp only [Option.some.injEq, forall_eq']
      rw [ordL_cons]
      by_cases h1 : c.toNat < d.toNat
      · rw [if_pos h1, if_neg (by omega), if_pos h1]
        constructor
        · intro h; omega
        · intro h; omega
      · by_cases h2 : d.toNat < c.toNat
        · rw [if_neg h1, if_pos h2]
          constructor
          · intro h; omega
          · intro h; omega
        · rw [if_neg h1, if_neg h2, if_neg h2, if_neg h1]
          constructor
          · intro h; exact h.2
          · intro h; exact ⟨by omega, h⟩
    | none =>
      simp only [reduceCtorEq, false_implies, implies_true, and_true]
      by_cases h255 : c = 255
      · have : c.toNat = 255 := by rw [h255]; rfl
        simp only [h255, if_true, reduceCtorEq, false_implies, implies_true, and_true]
        rw [h255] at this hc
        by_cases h2 : d.toNat < (255 : UInt8).toNat
        · rw [if_neg (by omega), if_pos h2]
          constructor
          · intro h; omega
          · intro h; omega
        · rw [if_neg (by omega), if_neg h2]
          constructor
          · intro h; exact h.2
          · intro h; exact ⟨by omega, h⟩
      · have hne : c.toNat ≠ 255 := fun e => h255 (UInt8.toNat_inj.1 e)
        have hs : (c + 1).toNat = c.toNat + 1 := by rw [UInt8.toNat_add]; show (c.toNat + 1) % 256 = _; omega
        have hy := ordL_nil_right y
        simp only [h255, if_false, Option.some.injEq, forall_eq', ordL_cons, hs]
        by_cases h1 : c.toNat < d.toNat
        · rw [if_pos h1]
          by_cases h3 : c.toNat + 1 < d.toNat
          · rw [if_neg (by omega), if_pos h3]
            constructor
            · intro h; omega
            · intro h; omega
          · rw [if_neg (by omega), if_neg h3]
            constructor
            · intro h; omega
            · intro h; omega
        · by_cases h2 : d.toNat < c.toNat
          · rw [if_neg h1, if_pos h2]
            constructor
            · intro h; omega
            · intro h; omega
          · rw [if_neg h1, if_neg h2, if_pos (by omega)]
            constructor
            · intro h; exact ⟨h.2, by omega⟩
            · intro h; exact ⟨by omega, h.1⟩

end Go.Proofs.Ythdjlaombbeagaa
