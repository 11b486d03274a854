import Derived.Below
import Derived.Laws.Strings
import Derived.Test.YtbcdkfolmncjlaaProg
import Derived.WalkKit
import Derived.WalkSpells
import Derived.WalkLawsBesides
/-
  PLAIN FUNCTIONS (no program): which bytes are letters, digits, of a word; which values may be; how two stand.
-/
namespace Go.Proofs.Ytbcdkfolmncjlaa
open Go.RowKit

def lowI (c : Int) : Bool := decide (97 ≤ c ∧ c ≤ 122)
def digI (c : Int) : Bool := decide (48 ≤ c ∧ c ≤ 57)
def inwI (c : Int) : Bool := lowI c || digI c || (c == 46) || (c == 95) || (c == 45) || (c == 47)

/-- may bytes be a word? -/
def wordL : List UInt8 → Bool
  | [] => false
  | c :: r => decide (r.length < 64) && lowI c.toNat && r.all (fun x => inwI x.toNat)
def wordB (s : ByteArray) : Bool := wordL s.data.toList

/-- may a value be? -/
def mayB (k n : Int) (s : ByteArray) : Bool :=
  if k = 1 ∨ k = 6 then decide (s.size = 0)
  else if k = 2 then decide (s.size = 0) && decide (n = 0 ∨ n = 1)
  else if k = 3 ∨ k = 4 then decide (n = 0) && decide (s.size ≤ 1000)
  else if k = 5 then decide (s.size = 0) && decide (0 ≤ n ∧ n < 9007199254740992)
  else if k = 7 then decide (n = 0) && wordB s
  else false

/-- a digit of sixteen, as a byte -/
def hexD (n : Nat) : UInt8 := if n < 10 then UInt8.ofNat (48 + n) else UInt8.ofNat (87 + n)
/-- a byte in two digits -/
def hexL (c : UInt8) : List UInt8 := [hexD (c.toNat / 16), hexD (c.toNat % 16)]
/-- does a byte stand as itself? -/
def plainB (c : Int) : Bool := decide (32 ≤ c ∧ c ≤ 126 ∧ c ≠ 34 ∧ c ≠ 92)
/-- a byte as it stands in a text's text -/
def escL (c : UInt8) : List UInt8 := if plainB c.toNat = true then [c] else 92 :: hexL c

/-- how two numbers stand -/
def ordI (a b : Int) : Int := if a < b then -1 else if b < a then 1 else 0
/-- how two texts stand, byte by byte -/
def ordL : List UInt8 → List UInt8 → Int
  | [], [] => 0
  | [], _ :: _ => -1
  | _ :: _, [] => 1
  | x :: l, y :: r => if x.toNat < y.toNat then -1 else if y.toNat < x.toNat then 1 else ordL l r
def ordS (a b : ByteArray) : Int := ordL a.data.toList b.data.toList
/-- how two values stand -/
def ordV (k n : Int) (s : ByteArray) (k' n' : Int) (s' : ByteArray) : Int :=
  if ordI k k' = 0 then (if ordI n n' = 0 then ordS s s' else ordI n n') else ordI k k'

theorem drop_at (s : ByteArray) (k : Nat) (h : k < s.size) : s.data.toList.drop k = s[k] :: s.data.toList.drop (k + 1) := by
  rw [List.drop_eq_getElem_cons (by simpa using h)]; rfl
theorem drop_end (s : ByteArray) (k : Nat) (h : s.size ≤ k) : s.data.toList.drop k = [] := by
  rw [List.drop_eq_nil_iff]; simpa using h

theorem u8_eq {x y : UInt8} (h1 : ¬ x.toNat < y.toNat) (h2 : ¬ y.toNat < x.toNat) : x = y := UInt8.toNat_inj.1 (by omega)

theorem less_ord : ∀ (l r : List UInt8), (Op.bytesLess l r = true → ordL l r = -1) ∧ (Op.bytesLess l r = false → (l == r) = false → ordL l r = 1) ∧ (l = r → ordL l r = 0)
  | [], [] => by simp [Op.bytesLess, ordL]
  | [], _ :: _ => by simp [Op.bytesLess, ordL]
  | _ :: _, [] => by simp [Op.bytesLess, ordL]
  | x :: l, y :: r => by
    have ih := less_ord l r
    simp only [Op.bytesLess, ordL]
    by_cases h1 : x.toNat < y.toNat
    · have h1' : x < y := UInt8.lt_iff_toNat_lt.2 h1
      simp only [h1, h1', if_true, decide_true, Bool.true_or]
      refine ⟨fun _ => by simp, fun h => by simp at h, fun h => ?_⟩
      cases h; omega
    · have h1' : ¬ x < y := fun h => h1 (UInt8.lt_iff_toNat_lt.1 h)
      by_cases h2 : y.toNat < x.toNat
      · have hne : (x == y) = false := by
          rw [beq_eq_false_iff_ne]; intro e; subst e; omega
        simp only [h1, h1', h2, hne, if_true, if_false, decide_false, Bool.false_or, Bool.false_and]
        refine ⟨fun h => by simp at h, fun _ _ => by simp, fun h => ?_⟩
        cases h; omega
      · obtain rfl := u8_eq h1 h2
        simp only [h1, h1', if_false, decide_false, Bool.false_or, beq_self_eq_true, Bool.true_and]
        refine ⟨ih.1, fun h h' => ih.2.1 h ?_, fun h => ih.2.2 (by simpa using h)⟩
        simpa using h'

theorem ord_self (l : List UInt8) : ordL l l = 0 := (less_ord l l).2.2 rfl

theorem ordL_range : ∀ (l r : List UInt8), ordL l r = -1 ∨ ordL l r = 0 ∨ ordL l r = 1
  | [], [] => by simp [ordL]
  | [], _ :: _ => by simp [ordL]
  | _ :: _, [] => by simp [ordL]
  | x :: l, y :: r => by
    have := ordL_range l r
    simp only [ordL]
    split
    · exact .inl rfl
    · split
      · exact .inr (.inr rfl)
      · exact this

theorem ordI_range (a b : Int) : ordI a b = -1 ∨ ordI a b = 0 ∨ ordI a b = 1 := by
  unfold ordI; split
  · exact .inl rfl
  · split
    · exact .inr (.inr rfl)
    · exact .inr (.inl rfl)
theorem ordI_zero {a b : Int} : ordI a b = 0 ↔ a = b := by
  unfold ordI; split
  · constructor <;> intro h <;> first | omega | (subst h; omega)
  · split
    · constructor <;> intro h <;> first | omega | (subst h; omega)
    · constructor <;> intro h <;> omega

end Go.Proofs.Ytbcdkfolmncjlaa

/-
  PLAIN FUNCTIONS (no program): bytes of numbers, values, keys; how they stand.
-/
namespace Go.Proofs.Ytbcdkfolmncjlaa
open Go.RowKit

/-- eight bytes of a number, the highest first -/
def be8 (v : Nat) : List UInt8 := [UInt8.ofNat (v / 72057594037927936), UInt8.ofNat (v / 281474976710656), UInt8.ofNat (v / 1099511627776), UInt8.ofNat (v / 4294967296), UInt8.ofNat (v / 16777216), UInt8.ofNat (v / 65536), UInt8.ofNat (v / 256), UInt8.ofNat v]
/-- a number with its sign turned -/
def turnN (n : Int) : Nat := (n + 9223372036854775808).toNat
def numB (n : Int) : List UInt8 := be8 (turnN n)
def strB : List UInt8 → List UInt8
  | [] => [0, 1]
  | c :: r => if c = 0 then 0 :: 255 :: strB r else c :: strB r
/-- what stands behind a value's kind -/
def tailB (k n : Int) (s : ByteArray) : List UInt8 := if k = 2 then [UInt8.ofNat n.toNat] else if k = 1 ∨ k = 5 ∨ k = 6 then numB n else strB s.data.toList
def valB (k n : Int) (s : ByteArray) : List UInt8 := UInt8.ofNat k.toNat :: tailB k n s

theorem be8_len (v : Nat) : (be8 v).length = 8 := rfl
theorem numB_len (n : Int) : (numB n).length = 8 := rfl
theorem strB_len : ∀ l : List UInt8, (strB l).length ≤ 2 * l.length + 2
  | [] => by simp [strB]
  | c :: r => by
    have := strB_len r
    unfold strB
    split <;> simp <;> omega

theorem byteN (v : Nat) : (UInt8.ofNat v).toNat = v % 256 := by rw [UInt8.toNat_ofNat']
theorem ordL_cons (x y : UInt8) (l r : List UInt8) : ordL (x :: l) (y :: r) = if x.toNat < y.toNat then -1 else if y.toNat < x.toNat then 1 else ordL l r := by rw [ordL]
theorem ordL_zero {l r : List UInt8} : ordL l r = 0 ↔ l = r := by
  constructor
  · intro h
    have h1 := less_ord l r
    cases hb : Op.bytesLess l r with
    | true => have := h1.1 hb; omega
    | false =>
      cases he : (l == r) with
      | false => have := h1.2.1 hb he; omega
      | true => exact eq_of_beq he
  · rintro rfl; exact ord_self l

/-- what bytes stand for -/
def horN : List UInt8 → Nat
  | [] => 0
  | c :: r => c.toNat * 256 ^ r.length + horN r
theorem horN_lt : ∀ l : List UInt8, horN l < 256 ^ l.length
  | [] => by simp [horN]
  | c :: r => by
    have ih := horN_lt r
    have hc : c.toNat < 256 := c.toNat_lt
    have h1 : (c.toNat + 1) * 256 ^ r.length ≤ 256 * 256 ^ r.length := Nat.mul_le_mul_right _ (by omega)
    rw [Nat.add_mul, Nat.one_mul] at h1
    show c.toNat * 256 ^ r.length + horN r < 256 ^ (r.length + 1)
    rw [Nat.pow_succ, Nat.mul_comm (256 ^ r.length) 256]
    omega
theorem hor_ord : ∀ (x y r r' : List UInt8), x.length = y.length → ordL (x ++ r) (y ++ r') = if horN x < horN y then -1 else if horN y < horN x then 1 else ordL r r'
  | [], [], r, r', _ => by simp [horN]
  | [], _ :: _, _, _, h => by simp at h
  | _ :: _, [], _, _, h => by simp at h
  | c :: x, d :: y, r, r', h => by
    have hl : x.length = y.length := by simpa using h
    have ih := hor_ord x y r r' hl
    have hx := horN_lt x
    have hy := horN_lt y
    rw [hl] at hx
    have e1 : horN (c :: x) = c.toNat * 256 ^ y.length + horN x := by rw [← hl]; rfl
    have e2 : horN (d :: y) = d.toNat * 256 ^ y.length + horN y := rfl
    simp only [List.cons_append, ordL_cons, ih]
    generalize horN (c :: x) = A at *
    generalize horN (d :: y) = B at *
    generalize 256 ^ y.length = P at *
    subst e1 e2
    by_cases h1 : c.toNat < d.toNat
    · have h2 : (c.toNat + 1) * P ≤ d.toNat * P := Nat.mul_le_mul_right _ h1
      rw [Nat.add_mul, Nat.one_mul] at h2
      rw [if_pos h1, if_pos (by omega)]
    · by_cases h3 : d.toNat < c.toNat
      · have h2 : (d.toNat + 1) * P ≤ c.toNat * P := Nat.mul_le_mul_right _ h3
        rw [Nat.add_mul, Nat.one_mul] at h2
        rw [if_neg h1, if_pos h3, if_neg (by omega), if_pos (by omega)]
      · have h4 : c.toNat = d.toNat := by omega
        rw [if_neg h1, if_neg h3, h4]
        by_cases h5 : horN x < horN y
        · rw [if_pos h5, if_pos (by omega)]
        · by_cases h6 : horN y < horN x
          · rw [if_neg h5, if_pos h6, if_neg (by omega), if_pos (by omega)]
          · rw [if_neg h5, if_neg h6, if_neg (by omega), if_neg (by omega)]
theorem horN_be8 (v : Nat) (h : v < 18446744073709551616) : horN (be8 v) = v := by
  unfold be8
  simp only [horN, byteN, List.length_cons, List.length_nil, Nat.zero_add, Nat.reduceAdd, Nat.reducePow]
  omega
theorem num_ord (a b : Nat) (ha : a < 18446744073709551616) (hb : b < 18446744073709551616) (r r' : List UInt8) :
    ordL (be8 a ++ r) (be8 b ++ r') = if a < b then -1 else if b < a then 1 else ordL r r' := by
  rw [hor_ord _ _ _ _ (by rw [be8_len, be8_len]), horN_be8 _ ha, horN_be8 _ hb]

theorem numB_ord (n m : Int) (hn : -9223372036854775808 ≤ n ∧ n ≤ 9223372036854775807) (hm : -9223372036854775808 ≤ m ∧ m ≤ 9223372036854775807) (r r' : List UInt8) :
    ordL (numB n ++ r) (numB m ++ r') = if ordI n m = 0 then ordL r r' else ordI n m := by
  unfold numB
  rw [num_ord _ _ (by unfold turnN; omega) (by unfold turnN; omega)]
  unfold ordI turnN
  repeat' split
  all_goals first | rfl | omega

theorem str_ord : ∀ (a b r r' : List UInt8), ordL (strB a ++ r) (strB b ++ r') = if ordL a b = 0 then ordL r r' else ordL a b
  | [], [], r, r' => by simp [strB, ordL]
  | [], c :: b, r, r' => by
    unfold strB
    split
    · simp [ordL]
    · rename_i h
      have : c.toNat ≠ 0 := fun e => h (UInt8.toNat_inj.1 (by simpa using e))
      have h0 : (0 : UInt8).toNat = 0 := rfl
      simp only [List.cons_append, ordL_cons, h0]
      rw [if_pos (by omega)]
      simp [ordL]
  | c :: a, [], r, r' => by
    unfold strB
    split
    · simp [ordL]
    · rename_i h
      have : c.toNat ≠ 0 := fun e => h (UInt8.toNat_inj.1 (by simpa using e))
      have h0 : (0 : UInt8).toNat = 0 := rfl
      simp only [List.cons_append, ordL_cons, h0]
      rw [if_neg (by omega), if_pos (by omega)]
      simp [ordL]
  | c :: a, d :: b, r, r' => by
    have ih := str_ord a b r r'
    have h0 : (0 : UInt8).toNat = 0 := rfl
    by_cases hc : c = 0
    · subst hc
      by_cases hd : d = 0
      · subst hd
        simp only [strB, if_true, List.cons_append, ordL_cons, Nat.lt_irrefl, if_false]
        exact ih
      · have : d.toNat ≠ 0 := fun e => hd (UInt8.toNat_inj.1 (by simpa using e))
        have hp : 0 < d.toNat := by omega
        simp [strB, hd, ordL_cons, hp]
    · have hcn : c.toNat ≠ 0 := fun e => hc (UInt8.toNat_inj.1 (by simpa using e))
      by_cases hd : d = 0
      · subst hd
        have hp : 0 < c.toNat := by omega
        simp [strB, hc, ordL_cons, hp]
      · simp only [strB, hc, hd, if_false, List.cons_append, ordL_cons]
        split
        · simp
        · split
          · simp
          · exact ih

theorem may_kind {k n : Int} {s : ByteArray} (h : mayB k n s = true) : 1 ≤ k ∧ k ≤ 7 := by
  unfold mayB at h
  by_cases h1 : 1 ≤ k ∧ k ≤ 7
  · exact h1
  · rw [if_neg (by omega), if_neg (by omega), if_neg (by omega), if_neg (by omega), if_neg (by omega)] at h
    cases h
theorem data_nil {s : ByteArray} (h : s.size = 0) : s.data.toList = [] := by
  rw [← List.length_eq_zero_iff]; exact h
theorem may_num {k n : Int} {s : ByteArray} (h : mayB k n s = true) (hk : k = 1 ∨ k = 5 ∨ k = 6) : s.size = 0 := by
  unfold mayB at h
  rcases hk with rfl | rfl | rfl
  · simpa using h
  · have : s.size = 0 ∧ (0 ≤ n ∧ n < 9007199254740992) := by simpa [-ByteArray.size_eq_zero_iff] using h
    exact this.1
  · simpa using h
theorem may_bool {n : Int} {s : ByteArray} (h : mayB 2 n s = true) : s.size = 0 ∧ (n = 0 ∨ n = 1) := by
  simpa [mayB] using h
theorem may_str {k n : Int} {s : ByteArray} (h : mayB k n s = true) (hk : k = 3 ∨ k = 4 ∨ k = 7) : n = 0 := by
  unfold mayB at h
  rcases hk with rfl | rfl | rfl
  · have := by simpa using h
    exact this.1
  · have := by simpa using h
    exact this.1
  · have := by simpa using h
    exact this.1

theorem val_ord {k n k' n' : Int} {s s' : ByteArray} (hm : mayB k n s = true) (hm' : mayB k' n' s' = true)
    (hn : -9223372036854775808 ≤ n ∧ n ≤ 9223372036854775807) (hn' : -9223372036854775808 ≤ n' ∧ n' ≤ 9223372036854775807) (r r' : List UInt8) :
    ordL (valB k n s ++ r) (valB k' n' s' ++ r') = if ordV k n s k' n' s' = 0 then ordL r r' else ordV k n s k' n' s' := by
  have hk := may_kind hm
  have hk' := may_kind hm'
  unfold valB
  simp only [List.cons_append, ordL_cons, byteN]
  unfold ordV
  by_cases h1 : k < k'
  · rw [if_pos (by omega)]
    have : ordI k k' = -1 := by unfold ordI; rw [if_pos h1]
    rw [this]; simp
  by_cases h2 : k' < k
  · rw [if_neg (by omega), if_pos (by omega)]
    have : ordI k k' = 1 := by unfold ordI; rw [if_neg h1, if_pos h2]
    rw [this]; simp
  obtain rfl : k = k' := by omega
  rw [if_neg (by omega), if_neg (by omega)]
  have hkk : ordI k k = 0 := ordI_zero.2 rfl
  rw [if_pos hkk]
  unfold tailB
  by_cases k2 : k = 2
  · subst k2
    rw [if_pos rfl, if_pos rfl]
    obtain ⟨hs, hn0⟩ := may_bool hm
    obtain ⟨hs', hn0'⟩ := may_bool hm'
    have hS : ordS s s' = 0 := by unfold ordS; rw [data_nil hs, data_nil hs']; rfl
    rw [hS]
    simp only [List.cons_append, List.nil_append, ordL_cons, byteN]
    unfold ordI
    rcases hn0 with rfl | rfl <;> rcases hn0' with rfl | rfl <;> simp
  · rw [if_neg k2, if_neg k2]
    by_cases hkn : k = 1 ∨ k = 5 ∨ k = 6
    · rw [if_pos hkn, if_pos hkn, numB_ord n n' hn hn']
      have hS : ordS s s' = 0 := by unfold ordS; rw [data_nil (may_num hm hkn), data_nil (may_num hm' hkn)]; rfl
      rw [hS]
      by_cases h0 : ordI n n' = 0
      · rw [if_pos h0, if_pos h0]; simp
      · rw [if_neg h0, if_neg h0, if_neg h0]
    · rw [if_neg hkn, if_neg hkn, str_ord]
      have e1 := may_str hm (by omega)
      have e2 := may_str hm' (by omega)
      subst e1 e2
      rfl

/-- a part of a key -/
structure PartP where
  v : Bool
  n : Int
  k : Int
  m : Int
  s : ByteArray
def partB (p : PartP) : List UInt8 := if p.v then valB p.k p.m p.s else numB p.n
def partMay (p : PartP) : Bool := !p.v || mayB p.k p.m p.s
def keyB (l : List PartP) : List UInt8 := l.flatMap partB
def partOk (p : PartP) : Prop := (-9223372036854775808 ≤ p.n ∧ p.n ≤ 9223372036854775807) ∧ (-9223372036854775808 ≤ p.m ∧ p.m ≤ 9223372036854775807)
def ordP (a b : PartP) : Int := if a.v then ordV a.k a.m a.s b.k b.m b.s else ordI a.n b.n
def ordK : List PartP → List PartP → Int
  | a :: l, b :: r => if ordP a b = 0 then ordK l r else ordP a b
  | _, _ => 0

theorem part_ord {a b : PartP} (hv : a.v = b.v) (ha : partMay a = true) (hb : partMay b = true) (oa : partOk a) (ob : partOk b) (r r' : List UInt8) :
    ordL (partB a ++ r) (partB b ++ r') = if ordP a b = 0 then ordL r r' else ordP a b := by
  unfold partB ordP
  rw [← hv]
  unfold partMay at ha hb
  rw [← hv] at hb
  cases h : a.v with
  | true =>
    rw [h] at ha hb
    simp only [if_true]
    exact val_ord (by simpa using ha) (by simpa using hb) oa.2 ob.2 r r'
  | false =>
    simp only [Bool.false_eq_true, if_false]
    exact numB_ord _ _ oa.1 ob.1 r r'

theorem key_ord : ∀ (a b : List PartP), a.map (·.v) = b.map (·.v) → (∀ p ∈ a, partMay p = true ∧ partOk p) → (∀ p ∈ b, partMay p = true ∧ partOk p) → ordL (keyB a) (keyB b) = ordK a b
  | [], [], _, _, _ => by simp [keyB, ordK, ordL]
  | [], _ :: _, h, _, _ => by simp at h
  | _ :: _, [], h, _, _ => by simp at h
  | p :: a, q :: b, h, ha, hb => by
    have ih := key_ord a b (by simp at h ⊢; exact h.2) (fun x hx => ha x (by simp [hx])) (fun x hx => hb x (by simp [hx]))
    have hp := ha p (by simp)
    have hq := hb q (by simp)
    have hv : p.v = q.v := by simp at h; exact h.1
    show ordL (partB p ++ keyB a) (partB q ++ keyB b) = _
    rw [part_ord hv hp.1 hq.1 hp.2 hq.2, ih, ordK]

/-- no value's bytes begin another one's -/
theorem val_apart {k n k' n' : Int} {s s' : ByteArray} (hm : mayB k n s = true) (hm' : mayB k' n' s' = true)
    (hn : -9223372036854775808 ≤ n ∧ n ≤ 9223372036854775807) (hn' : -9223372036854775808 ≤ n' ∧ n' ≤ 9223372036854775807) (h : valB k n s <+: valB k' n' s') : ordV k n s k' n' s' = 0 := by
  obtain ⟨t, ht⟩ := h
  have h1 := val_ord hm hm' hn hn' t []
  rw [ht, List.append_nil, ord_self] at h1
  by_cases h0 : ordV k n s k' n' s' = 0
  · exact h0
  · rw [if_neg h0] at h1; exact h1.symm

/-- the end of a beginning, from its front -/
def endF : List UInt8 → Option (List UInt8)
  | [] => none
  | c :: r => match endF r with
    | some e => some (c :: e)
    | none => if c = 255 then none else some [c + 1]
theorem endF_all : ∀ t : List UInt8, (∀ c ∈ t, c = 255) → endF t = none
  | [], _ => rfl
  | c :: r, h => by
    rw [endF, endF_all r (fun x hx => h x (by simp [hx]))]
    simp [h c (by simp)]
theorem endF_at : ∀ (p : List UInt8) (c : UInt8) (t : List UInt8), (∀ c ∈ t, c = 255) → c ≠ 255 → endF (p ++ c :: t) = some (p ++ [c + 1])
  | [], c, t, h, hc => by
    show endF (c :: t) = _
    rw [endF, endF_all t h]
    simp [hc]
  | d :: p, c, t, h, hc => by
    show endF (d :: (p ++ c :: t)) = _
    rw [endF, endF_at p c t h hc]
    rfl
theorem ordL_nil_right (l : List UInt8) : 0 ≤ ordL l [] := by cases l <;> simp [ordL]
theorem ordL_nil_left (l : List UInt8) : ordL [] l ≤ 0 := by cases l <;> simp [ordL]
theorem endF_within : ∀ (b x : List UInt8), b <+: x ↔ (ordL b x ≤ 0 ∧ ∀ e, endF b = some e → ordL x e < 0)
  | [], x => by simp [endF, ordL_nil_left]
  | c :: r, [] => by simp [ordL]
  | c :: r, d :: y => by
    have ih := endF_within r y
    have hc : c.toNat < 256 := c.toNat_lt
    have hd : d.toNat < 256 := d.toNat_lt
    have he : c = d ↔ c.toNat = d.toNat := UInt8.toNat_inj.symm
    rw [List.cons_prefix_cons, ih, he, ordL_cons]
    rw [endF]
    cases hr : endF r with
    | some e =>
      simp only [Option.some.injEq, forall_eq']
      rw [ordL_cons]
      by_cases h1 : c.toNat < d.toNat
      · rw [if_pos h1, if_neg (by omega), if_pos h1]
        constructor
        · intro h; omega
        · intro h; omega
      · by_cases h2 : d.toNat < c.toNat
        · rw [if_neg h1, if_pos h2]
          constructor
          · intro h; omega
          · intro h; omega
        · rw [if_neg h1, if_neg h2, if_neg h2, if_neg h1]
          constructor
          · intro h; exact h.2
          · intro h; exact ⟨by omega, h⟩
    | none =>
      simp only [reduceCtorEq, false_implies, implies_true, and_true]
      by_cases h255 : c = 255
      · have : c.toNat = 255 := by rw [h255]; rfl
        simp only [h255, if_true, reduceCtorEq, false_implies, implies_true, and_true]
        rw [h255] at this hc
        by_cases h2 : d.toNat < (255 : UInt8).toNat
        · rw [if_neg (by omega), if_pos h2]
          constructor
          · intro h; omega
          · intro h; omega
        · rw [if_neg (by omega), if_neg h2]
          constructor
          · intro h; exact h.2
          · intro h; exact ⟨by omega, h⟩
      · have hne : c.toNat ≠ 255 := fun e => h255 (UInt8.toNat_inj.1 e)
        have hs : (c + 1).toNat = c.toNat + 1 := by rw [UInt8.toNat_add]; show (c.toNat + 1) % 256 = _; omega
        have hy := ordL_nil_right y
        simp only [h255, if_false, Option.some.injEq, forall_eq', ordL_cons, hs]
        by_cases h1 : c.toNat < d.toNat
        · rw [if_pos h1]
          by_cases h3 : c.toNat + 1 < d.toNat
          · rw [if_neg (by omega), if_pos h3]
            constructor
            · intro h; omega
            · intro h; omega
          · rw [if_neg (by omega), if_neg h3]
            constructor
            · intro h; omega
            · intro h; omega
        · by_cases h2 : d.toNat < c.toNat
          · rw [if_neg h1, if_pos h2]
            constructor
            · intro h; omega
            · intro h; omega
          · rw [if_neg h1, if_neg h2, if_pos (by omega)]
            constructor
            · intro h; exact ⟨h.2, by omega⟩
            · intro h; exact ⟨by omega, h.1⟩

end Go.Proofs.Ytbcdkfolmncjlaa

/-
  PLAIN FUNCTIONS (no program): what bytes are read as.
-/
namespace Go.Proofs.Ytbcdkfolmncjlaa
open Go.RowKit

theorem horN_snoc : ∀ (l : List UInt8) (c : UInt8), horN (l ++ [c]) = horN l * 256 + c.toNat
  | [], c => by simp [horN]
  | d :: l, c => by
    show d.toNat * 256 ^ (l ++ [c]).length + horN (l ++ [c]) = (d.toNat * 256 ^ l.length + horN l) * 256 + c.toNat
    rw [horN_snoc l c, List.length_append, List.length_singleton, Nat.pow_succ, Nat.add_mul, Nat.mul_assoc]
    omega
theorem horN_take (l : List UInt8) (i : Nat) (h : i < l.length) : horN (l.take (i + 1)) = horN (l.take i) * 256 + l[i].toNat := by
  rw [List.take_succ_eq_append_getElem h, horN_snoc]
theorem horN_pow (l : List UInt8) (i : Nat) : horN (l.take i) < 256 ^ i := by
  have h1 := horN_lt (l.take i)
  have h2 : (l.take i).length ≤ i := List.length_take_le _ _
  exact Nat.lt_of_lt_of_le h1 (Nat.pow_le_pow_right (by decide) h2)
theorem horN_lo (l : List UInt8) (i : Nat) (h : i < 8) : horN (l.take i) < 72057594037927936 := by
  have h1 := horN_pow l i
  have h2 : 256 ^ i ≤ 256 ^ 7 := Nat.pow_le_pow_right (by decide) (by omega)
  have h3 : (256 : Nat) ^ 7 = 72057594037927936 := by decide
  omega
theorem horN_hi (l : List UInt8) : horN (l.take 8) < 18446744073709551616 := by
  have h1 := horN_pow l 8
  have h3 : (256 : Nat) ^ 8 = 18446744073709551616 := by decide
  omega

/-- the number that eight bytes stand for -/
def numR (l : List UInt8) : Int := (horN (l.take 8) : Int) - 9223372036854775808
theorem numR_in (l : List UInt8) : -9223372036854775808 ≤ numR l ∧ numR l ≤ 9223372036854775807 := by
  have := horN_hi l
  unfold numR
  omega
theorem shl_or (V c : Nat) (hc : c < 256) : V * 256 ||| c = V * 256 + c := by
  have h := Nat.shiftLeft_add_eq_or_of_lt (b := c) (i := 8) (by simpa using hc) V
  rw [Nat.shiftLeft_eq] at h
  exact h.symm

/-- a text up to its end -/
def txtR : List UInt8 → Option (List UInt8 × List UInt8)
  | [] => none
  | [_] => none
  | c :: d :: r => if c = 0 then if d = 1 then some ([], r) else if d = 255 then (txtR r).map fun p => (0 :: p.1, p.2) else none else (txtR (d :: r)).map fun p => (c :: p.1, p.2)

/-- a value at the beginning of bytes, and what stands behind it -/
def oneR : List UInt8 → Option ((Int × Int × List UInt8) × List UInt8)
  | [] => none
  | c :: r =>
    if c = 2 then match r with
      | [] => none
      | d :: t => if mayB 2 d.toNat ⟨#[]⟩ = true then some ((2, d.toNat, []), t) else none
    else if c = 1 ∨ c = 5 ∨ c = 6 then if 8 ≤ r.length ∧ mayB c.toNat (numR r) ⟨#[]⟩ = true then some ((c.toNat, numR r, []), r.drop 8) else none
    else if c = 3 ∨ c = 4 ∨ c = 7 then match txtR r with
      | none => none
      | some (s, t) => if mayB c.toNat 0 ⟨s.toArray⟩ = true then some ((c.toNat, 0, s), t) else none
    else none
theorem oneR_txt_none {c : UInt8} {t : List UInt8} (hc : c = 3 ∨ c = 4 ∨ c = 7) (h : txtR t = none) : oneR (c :: t) = none := by
  rcases hc with rfl | rfl | rfl <;> simp [oneR, h]
theorem oneR_txt_no {c : UInt8} {t s u : List UInt8} (hc : c = 3 ∨ c = 4 ∨ c = 7) (h : txtR t = some (s, u)) (hm : mayB c.toNat 0 ⟨s.toArray⟩ = false) : oneR (c :: t) = none := by
  rcases hc with rfl | rfl | rfl <;> (unfold oneR; simp only [h, hm]; rfl)
theorem oneR_txt_yes {c : UInt8} {t s u : List UInt8} (hc : c = 3 ∨ c = 4 ∨ c = 7) (h : txtR t = some (s, u)) (hm : mayB c.toNat 0 ⟨s.toArray⟩ = true) : oneR (c :: t) = some (((c.toNat : Int), 0, s), u) := by
  rcases hc with rfl | rfl | rfl <;> (unfold oneR; simp only [h, hm]; rfl)
theorem oneR_num_none {c : UInt8} {t : List UInt8} (hc : c = 1 ∨ c = 5 ∨ c = 6) (h : t.length < 8) : oneR (c :: t) = none := by
  have h8 : ¬ 8 ≤ t.length := by omega
  rcases hc with rfl | rfl | rfl <;> simp [oneR, h8]
theorem oneR_num_no {c : UInt8} {t : List UInt8} (hc : c = 1 ∨ c = 5 ∨ c = 6) (hm : mayB c.toNat (numR t) ⟨#[]⟩ = false) : oneR (c :: t) = none := by
  rcases hc with rfl | rfl | rfl <;> (unfold oneR; simp only [hm, Bool.false_eq_true, and_false]; rfl)
theorem oneR_num_yes {c : UInt8} {t : List UInt8} (hc : c = 1 ∨ c = 5 ∨ c = 6) (h : 8 ≤ t.length) (hm : mayB c.toNat (numR t) ⟨#[]⟩ = true) : oneR (c :: t) = some (((c.toNat : Int), numR t, []), t.drop 8) := by
  rcases hc with rfl | rfl | rfl <;> (unfold oneR; simp only [hm, h, and_self]; rfl)
theorem oneR_two_none : oneR [2] = none := rfl
theorem oneR_two_no {d : UInt8} {t : List UInt8} (hm : mayB 2 d.toNat ⟨#[]⟩ = false) : oneR (2 :: d :: t) = none := by
  unfold oneR; simp only [hm]; rfl
theorem oneR_two_yes {d : UInt8} {t : List UInt8} (hm : mayB 2 d.toNat ⟨#[]⟩ = true) : oneR (2 :: d :: t) = some ((2, (d.toNat : Int), []), t) := by
  unfold oneR; simp only [hm]; rfl
theorem oneR_else {c : UInt8} {t : List UInt8} (h1 : c ≠ 1) (h2 : c ≠ 2) (h3 : c ≠ 3) (h4 : c ≠ 4) (h5 : c ≠ 5) (h6 : c ≠ 6) (h7 : c ≠ 7) : oneR (c :: t) = none := by
  unfold oneR; simp [h1, h2, h3, h4, h5, h6, h7]

/-- a part at the beginning of bytes, and what stands behind it -/
def partR (v : Bool) (b : List UInt8) : Option (PartP × List UInt8) :=
  if v then (oneR b).map fun p => (⟨true, 0, p.1.1, p.1.2.1, ⟨p.1.2.2.toArray⟩⟩, p.2)
  else if 8 ≤ b.length then some (⟨false, numR b, 0, 0, ⟨#[]⟩⟩, b.drop 8) else none
end Go.Proofs.Ytbcdkfolmncjlaa

/-
  PLAIN FACTS: what is written is read as it was; what is read, written, are the bytes.
-/
namespace Go.Proofs.Ytbcdkfolmncjlaa
open Go.RowKit

theorem numR_numB (n : Int) (hn : -9223372036854775808 ≤ n ∧ n ≤ 9223372036854775807) (t : List UInt8) : numR (numB n ++ t) = n := by
  unfold numR numB
  rw [List.take_append_of_le_length (by rw [be8_len]; omega), List.take_of_length_le (by rw [be8_len]; omega), horN_be8 _ (by unfold turnN; omega)]
  unfold turnN
  omega
theorem be8_horN : ∀ {l : List UInt8}, l.length = 8 → be8 (horN l) = l
  | [a, b, c, d, e, f, g, h], _ => by
    have ha := a.toNat_lt; have hb := b.toNat_lt; have hc := c.toNat_lt; have hd := d.toNat_lt
    have he := e.toNat_lt; have hf := f.toNat_lt; have hg := g.toNat_lt; have hh := h.toNat_lt
    unfold be8
    simp only [horN, List.length_cons, List.length_nil, Nat.zero_add, Nat.reduceAdd, Nat.reducePow]
    have k : ∀ (x : UInt8) (v : Nat), v % 256 = x.toNat → UInt8.ofNat v = x := fun x v h => UInt8.toNat_inj.1 (by rw [byteN, h])
    rw [k a _ (by omega), k b _ (by omega), k c _ (by omega), k d _ (by omega), k e _ (by omega), k f _ (by omega), k g _ (by omega), k h _ (by omega)]
theorem numB_numR {l : List UInt8} (h : 8 ≤ l.length) : numB (numR l) = l.take 8 := by
  have hl : (l.take 8).length = 8 := by rw [List.length_take]; omega
  unfold numB numR turnN
  rw [show ((horN (l.take 8) : Int) - 9223372036854775808 + 9223372036854775808).toNat = horN (l.take 8) from by omega, be8_horN hl]
theorem txtR_strB : ∀ (s t : List UInt8), txtR (strB s ++ t) = some (s, t)
  | [], t => by simp [strB, txtR]
  | c :: r, t => by
    unfold strB
    by_cases hc : c = 0
    · rw [if_pos hc]
      subst hc
      have ih := txtR_strB r t
      simp only [List.cons_append, txtR, if_true]
      rw [if_neg (by decide), ih]
      rfl
    · rw [if_neg hc]
      have ih := txtR_strB r t
      obtain ⟨d, u, hd⟩ : ∃ d u, strB r ++ t = d :: u := by
        cases hh : strB r ++ t with
        | nil => rw [hh] at ih; cases ih
        | cons d u => exact ⟨d, u, rfl⟩
      rw [List.cons_append, hd, txtR, if_neg hc, ← hd, ih]
      rfl
theorem strB_txtR : ∀ {l s u : List UInt8}, txtR l = some (s, u) → l = strB s ++ u
  | [], _, _, h => by cases h
  | [_], _, _, h => by cases h
  | c :: d :: r, s, u, h => by
    rw [txtR] at h
    by_cases hc : c = 0
    · rw [if_pos hc] at h
      by_cases h1 : d = 1
      · rw [if_pos h1] at h
        cases h
        rw [hc, h1]; rfl
      · rw [if_neg h1] at h
        by_cases h2 : d = 255
        · rw [if_pos h2] at h
          cases hr : txtR r with
          | none => rw [hr] at h; cases h
          | some p =>
            obtain ⟨s', u'⟩ := p
            rw [hr] at h
            have := strB_txtR hr
            cases h
            rw [hc, h2, this]
            simp [strB]
        · rw [if_neg h2] at h; cases h
    · rw [if_neg hc] at h
      cases hr : txtR (d :: r) with
      | none => rw [hr] at h; cases h
      | some p =>
        obtain ⟨s', u'⟩ := p
        rw [hr] at h
        have := strB_txtR hr
        cases h
        rw [this]
        simp [strB, hc]

theorem mayB_kind {k n : Int} {s : ByteArray} (h : mayB k n s = true) : k = 1 ∨ k = 2 ∨ k = 3 ∨ k = 4 ∨ k = 5 ∨ k = 6 ∨ k = 7 := by
  unfold mayB at h
  by_cases h1 : k = 1 ∨ k = 6; · omega
  by_cases h2 : k = 2; · omega
  by_cases h3 : k = 3 ∨ k = 4; · omega
  by_cases h5 : k = 5; · omega
  by_cases h7 : k = 7; · omega
  rw [if_neg h1, if_neg h2, if_neg h3, if_neg h5, if_neg h7] at h
  cases h
theorem mayB_size {k n : Int} {s : ByteArray} (h : mayB k n s = true) : s.size ≤ 1000 := by
  unfold mayB at h
  by_cases h1 : k = 1 ∨ k = 6
  · rw [if_pos h1] at h; have := of_decide_eq_true h; omega
  rw [if_neg h1] at h
  by_cases h2 : k = 2
  · rw [if_pos h2, Bool.and_eq_true] at h; have := of_decide_eq_true h.1; omega
  rw [if_neg h2] at h
  by_cases h3 : k = 3 ∨ k = 4
  · rw [if_pos h3, Bool.and_eq_true] at h; exact of_decide_eq_true h.2
  rw [if_neg h3] at h
  by_cases h5 : k = 5
  · rw [if_pos h5, Bool.and_eq_true] at h; have := of_decide_eq_true h.1; omega
  rw [if_neg h5] at h
  by_cases h7 : k = 7
  · rw [if_pos h7, Bool.and_eq_true] at h
    have h8 := h.2
    unfold wordB wordL at h8
    have e : s.data.toList.length = s.size := Array.length_toList
    cases hd : s.data.toList with
    | nil => rw [hd] at h8; cases h8
    | cons c r =>
      rw [hd] at h8 e
      simp only [Bool.and_eq_true] at h8
      have := of_decide_eq_true h8.1.1
      rw [List.length_cons] at e
      omega
  rw [if_neg h7] at h
  cases h
theorem empty_of {s : ByteArray} (h : s.size = 0) : s = ⟨#[]⟩ := by
  obtain ⟨d⟩ := s
  have : d.size = 0 := h
  rw [Array.eq_empty_of_size_eq_zero this]

theorem oneR_valB {k n : Int} {s : ByteArray} (h : mayB k n s = true) (hn : -9223372036854775808 ≤ n ∧ n ≤ 9223372036854775807) (t : List UInt8) : oneR (valB k n s ++ t) = some ((k, n, s.data.toList), t) := by
  have h0 := h
  unfold mayB at h0
  rcases mayB_kind h with rfl | rfl | rfl | rfl | rfl | rfl | rfl
  · obtain rfl := empty_of (of_decide_eq_true (by simpa using h0))
    show oneR (1 :: (numB n ++ t)) = _
    have e := numR_numB n hn t
    rw [oneR_num_yes (c := 1) (.inl rfl) (by rw [List.length_append, numB_len]; omega) (by rw [e]; exact h), e, List.drop_append_of_le_length (by rw [numB_len]; omega), List.drop_of_length_le (by rw [numB_len]; omega)]
    rfl
  · simp only [show ¬ ((2 : Int) = 1 ∨ (2 : Int) = 6) from by decide, if_false, if_true, Bool.and_eq_true, decide_eq_true_eq] at h0
    obtain rfl := empty_of h0.1
    show oneR (2 :: UInt8.ofNat n.toNat :: t) = _
    have e : ((UInt8.ofNat n.toNat).toNat : Int) = n := by
      rw [byteN]
      rcases h0.2 with rfl | rfl <;> rfl
    rw [oneR_two_yes (by rw [e]; exact h), e]
  · simp only [show ¬ ((3 : Int) = 1 ∨ (3 : Int) = 6) from by decide, show ¬ ((3 : Int) = 2) from by decide, if_false, true_or, if_true, Bool.and_eq_true, decide_eq_true_eq] at h0
    obtain rfl := h0.1
    show oneR (3 :: (strB s.data.toList ++ t)) = _
    rw [oneR_txt_yes (.inl rfl) (txtR_strB _ _) h]
    rfl
  · simp only [show ¬ ((4 : Int) = 1 ∨ (4 : Int) = 6) from by decide, show ¬ ((4 : Int) = 2) from by decide, if_false, or_true, if_true, Bool.and_eq_true, decide_eq_true_eq] at h0
    obtain rfl := h0.1
    show oneR (4 :: (strB s.data.toList ++ t)) = _
    rw [oneR_txt_yes (.inr (.inl rfl)) (txtR_strB _ _) h]
    rfl
  · simp only [show ¬ ((5 : Int) = 1 ∨ (5 : Int) = 6) from by decide, show ¬ ((5 : Int) = 2) from by decide, show ¬ ((5 : Int) = 3 ∨ (5 : Int) = 4) from by decide, if_false, if_true, Bool.and_eq_true, decide_eq_true_eq] at h0
    obtain rfl := empty_of h0.1
    show oneR (5 :: (numB n ++ t)) = _
    have e := numR_numB n hn t
    rw [oneR_num_yes (c := 5) (.inr (.inl rfl)) (by rw [List.length_append, numB_len]; omega) (by rw [e]; exact h), e, List.drop_append_of_le_length (by rw [numB_len]; omega), List.drop_of_length_le (by rw [numB_len]; omega)]
    rfl
  · obtain rfl := empty_of (of_decide_eq_true (by simpa using h0))
    show oneR (6 :: (numB n ++ t)) = _
    have e := numR_numB n hn t
    rw [oneR_num_yes (c := 6) (.inr (.inr rfl)) (by rw [List.length_append, numB_len]; omega) (by rw [e]; exact h), e, List.drop_append_of_le_length (by rw [numB_len]; omega), List.drop_of_length_le (by rw [numB_len]; omega)]
    rfl
  · simp only [show ¬ ((7 : Int) = 1 ∨ (7 : Int) = 6) from by decide, show ¬ ((7 : Int) = 2) from by decide, show ¬ ((7 : Int) = 3 ∨ (7 : Int) = 4) from by decide, show ¬ ((7 : Int) = 5) from by decide, if_false, if_true, Bool.and_eq_true, decide_eq_true_eq] at h0
    obtain rfl := h0.1
    show oneR (7 :: (strB s.data.toList ++ t)) = _
    rw [oneR_txt_yes (.inr (.inr rfl)) (txtR_strB _ _) h]
    rfl
theorem valB_oneR {l t : List UInt8} {k n : Int} {s : List UInt8} (h : oneR l = some ((k, n, s), t)) : l = valB k n ⟨s.toArray⟩ ++ t ∧ mayB k n ⟨s.toArray⟩ = true ∧ (-9223372036854775808 ≤ n ∧ n ≤ 9223372036854775807) := by
  cases l with
  | nil => cases h
  | cons c r =>
    simp only [oneR] at h
    by_cases h2 : c = 2
    · rw [if_pos h2] at h
      cases r with
      | nil => cases h
      | cons d u =>
        simp only at h
        split at h
        · rename_i hm
          have hd := d.toNat_lt
          cases h
          refine ⟨?_, hm, by omega⟩
          rw [h2]
          show 2 :: d :: t = 2 :: UInt8.ofNat ((d.toNat : Int)).toNat :: t
          rw [Int.toNat_natCast, UInt8.ofNat_toNat]
        · cases h
    · rw [if_neg h2] at h
      by_cases h1 : c = 1 ∨ c = 5 ∨ c = 6
      · rw [if_pos h1] at h
        split at h
        · rename_i hm
          cases h
          refine ⟨?_, hm.2, numR_in r⟩
          have e : valB (c.toNat : Int) (numR r) ⟨#[]⟩ = c :: numB (numR r) := by
            rcases h1 with rfl | rfl | rfl <;> rfl
          show c :: r = valB (c.toNat : Int) (numR r) ⟨#[]⟩ ++ r.drop 8
          rw [e, numB_numR hm.1, List.cons_append, List.take_append_drop]
        · cases h
      · rw [if_neg h1] at h
        by_cases h3 : c = 3 ∨ c = 4 ∨ c = 7
        · rw [if_pos h3] at h
          cases hr : txtR r with
          | none => rw [hr] at h; cases h
          | some p =>
            obtain ⟨s', u⟩ := p
            rw [hr] at h
            simp only at h
            have h5 := strB_txtR hr
            split at h
            · rename_i hm
              cases h
              refine ⟨?_, hm, by omega⟩
              have e : valB (c.toNat : Int) 0 ⟨s.toArray⟩ = c :: strB s := by
                rcases h3 with rfl | rfl | rfl <;> rfl
              rw [e, h5]; rfl
            · cases h
        · rw [if_neg h3] at h; cases h

def cleanP (p : PartP) : PartP := if p.v = true then ⟨true, 0, p.k, p.m, p.s⟩ else ⟨false, p.n, 0, 0, ⟨#[]⟩⟩
theorem partR_partB {p : PartP} (hm : partMay p = true) (hk : partOk p) (t : List UInt8) : partR p.v (partB p ++ t) = some (cleanP p, t) := by
  obtain ⟨v, n, k, m, s⟩ := p
  obtain ⟨h1, h2⟩ := hk
  cases v
  · show (if 8 ≤ (numB n ++ t).length then some (PartP.mk false (numR (numB n ++ t)) 0 0 ⟨#[]⟩, (numB n ++ t).drop 8) else none) = _
    rw [if_pos (by rw [List.length_append, numB_len]; omega), numR_numB n h1, List.drop_append_of_le_length (by rw [numB_len]; omega), List.drop_of_length_le (by rw [numB_len]; omega)]
    rfl
  · show ((oneR (valB k m s ++ t)).map fun p => (PartP.mk true 0 p.1.1 p.1.2.1 ⟨p.1.2.2.toArray⟩, p.2)) = _
    have hm' : mayB k m s = true := by simpa [partMay] using hm
    rw [oneR_valB hm' h2]
    rfl
theorem partB_partR {v : Bool} {l t : List UInt8} {p : PartP} (h : partR v l = some (p, t)) : l = partB p ++ t ∧ partMay p = true ∧ partOk p := by
  unfold partR at h
  cases v
  · rw [if_neg (by decide)] at h
    split at h
    · rename_i h8
      cases h
      refine ⟨?_, rfl, numR_in l, by show (-9223372036854775808 : Int) ≤ 0 ∧ (0 : Int) ≤ 9223372036854775807; decide⟩
      show l = numB (numR l) ++ l.drop 8
      rw [numB_numR h8, List.take_append_drop]
    · cases h
  · rw [if_pos rfl] at h
    cases ho : oneR l with
    | none => rw [ho] at h; cases h
    | some x =>
      obtain ⟨⟨k, n, s⟩, u⟩ := x
      rw [ho] at h
      cases h
      obtain ⟨h1, h2, h3⟩ := valB_oneR ho
      refine ⟨h1, by simpa [partMay] using h2, by show (-9223372036854775808 : Int) ≤ 0 ∧ (0 : Int) ≤ 9223372036854775807; decide, h3⟩
theorem strB_ge : ∀ l : List UInt8, l.length + 2 ≤ (strB l).length
  | [] => by simp [strB]
  | c :: r => by
    have := strB_ge r
    unfold strB
    split <;> simp <;> omega
theorem partR_size {v : Bool} {l t : List UInt8} {p : PartP} (h : partR v l = some (p, t)) : p.s.size ≤ (partB p).length := by
  obtain ⟨_, hm, _⟩ := partB_partR h
  unfold partR at h
  cases v
  · rw [if_neg (by decide)] at h
    split at h
    · cases h; exact Nat.zero_le _
    · cases h
  · rw [if_pos rfl] at h
    cases ho : oneR l with
    | none => rw [ho] at h; cases h
    | some x =>
      obtain ⟨⟨k, n, s⟩, u⟩ := x
      rw [ho] at h
      cases h
      have hm' : mayB k n ⟨s.toArray⟩ = true := by simpa [partMay] using hm
      show s.toArray.size ≤ (valB k n ⟨s.toArray⟩).length
      have hs := strB_ge s
      unfold valB tailB
      unfold mayB at hm'
      rw [List.length_cons]
      have e : s.toArray.size = s.length := by simp
      by_cases h2 : k = 2
      · rw [if_neg (by omega), if_pos h2, Bool.and_eq_true] at hm'
        have := of_decide_eq_true hm'.1
        have e2 : s.toArray.size = 0 := this
        omega
      · rw [if_neg h2]
        by_cases h1 : k = 1 ∨ k = 5 ∨ k = 6
        · have e2 : s.toArray.size = 0 := by
            by_cases h3 : k = 1 ∨ k = 6
            · rw [if_pos h3] at hm'; exact of_decide_eq_true hm'
            · rw [if_neg h3, if_neg h2, if_neg (by omega), if_pos (by omega), Bool.and_eq_true] at hm'; exact of_decide_eq_true hm'.1
          omega
        · rw [if_neg h1]
          show _ ≤ (strB s).length + 1
          omega
end Go.Proofs.Ytbcdkfolmncjlaa

/-
  CONTRACTS of the smallest functions: one byte in, a bool out; three orders.
-/
namespace Go.Proofs.Ytbcdkfolmncjlaa
open Go.RowKit

theorem ret_bool {a b : Bool} (h : a = b) : Ending.returned (.bool a) = .returned (.bool b) := by rw [h]

set_option maxHeartbeats 400000 in
theorem isLetter_any (c : Int) (w : World) :
    Calls Try.prog 106 #[.int .u8 c] w fun e w' => e = .returned (.bool (lowI c)) ∧ w = w' := by
  by_cases h1 : 97 ≤ c
  · go_enter Try.func106, Try.ntmps106
    go_wp2
    go_ret
    exact ⟨ret_bool (by simp [lowI] <;> omega), rfl⟩
  · go_enter Try.func106, Try.ntmps106
    go_wp2
    go_ret
    exact ⟨ret_bool (by simp [lowI] <;> omega), rfl⟩

set_option maxHeartbeats 800000 in
theorem inWord_any (c : Int) (w : World) :
    Calls Try.prog 107 #[.int .u8 c] w fun e w' => e = .returned (.bool (inwI c)) ∧ w = w' := by
  go_enter Try.func107, Try.ntmps107
  go_wp2_with (go_at_call 106; refine (isLetter_any _ _).mono ?_; rintro e w' ⟨rfl, rfl⟩)
  all_goals go_ret
  all_goals exact ⟨ret_bool (by simp [inwI, digI, *] <;> omega), rfl⟩

theorem ret_i64 {a b : Int} (h : a = b) : Ending.returned (.int .i64 a) = .returned (.int .i64 b) := by rw [h]

set_option maxHeartbeats 400000 in
theorem cmpInt_any (a b : Int) (w : World) :
    Calls Try.prog 68 #[.int .i64 a, .int .i64 b] w fun e w' => e = .returned (.int .i64 (ordI a b)) ∧ w = w' := by
  go_enter Try.func68, Try.ntmps68
  go_wp2
  all_goals go_ret
  all_goals exact ⟨ret_i64 (by unfold ordI; split <;> (try split) <;> omega), rfl⟩

set_option maxHeartbeats 400000 in
theorem cmpI64_any (a b : Int) (w : World) :
    Calls Try.prog 57 #[.int .i64 a, .int .i64 b] w fun e w' => e = .returned (.int .i64 (ordI a b)) ∧ w = w' := by
  go_enter Try.func57, Try.ntmps57
  go_wp2
  all_goals go_ret
  all_goals exact ⟨ret_i64 (by unfold ordI; split <;> (try split) <;> omega), rfl⟩

theorem ordS_lt {a b : ByteArray} (h : Op.bytesLess a.toList b.toList = true) : ordS a b = -1 := by
  rw [ByteArray.toList_eq, ByteArray.toList_eq] at h; exact (less_ord _ _).1 h
theorem ordS_gt {a b : ByteArray} (h : Op.bytesLess a.toList b.toList = false) (h' : (!a.toList == b.toList) = true) : ordS a b = 1 := by
  rw [ByteArray.toList_eq, ByteArray.toList_eq] at h h'; exact (less_ord _ _).2.1 h (by simpa using h')
theorem ordS_eq {a b : ByteArray} (h' : (!a.toList == b.toList) = false) : ordS a b = 0 := by
  rw [ByteArray.toList_eq, ByteArray.toList_eq] at h'; exact (less_ord _ _).2.2 (by simpa using h')

set_option maxHeartbeats 400000 in
theorem cmpStr_any (a b : ByteArray) (w : World) :
    Calls Try.prog 69 #[.string a, .string b] w fun e w' => e = .returned (.int .i64 (ordS a b)) ∧ w = w' := by
  go_enter Try.func69, Try.ntmps69
  go_wp2
  all_goals go_ret
  · exact ⟨ret_i64 (by rw [ordS_lt ‹_›]), rfl⟩
  · exact ⟨ret_i64 (by rw [ordS_gt ‹_› ‹_›]), rfl⟩
  · exact ⟨ret_i64 (by rw [ordS_eq ‹_›]), rfl⟩

end Go.Proofs.Ytbcdkfolmncjlaa
