import Derived.Below
import Derived.Laws.Strings
import Derived.Test.YtefekkcmoambhaaProg
import Derived.WalkKit
import Derived.WalkSpells
import Derived.WalkLawsBesides
import Derived.Lib.Hide
import Derived.LoopTactic
import Derived.Deep.LoopGhost
import Derived.Laws.BitsAllLaws
import Derived.OwnWalk
import Derived.Laws.IdiomStrings
import Derived.Laws.OwnMore
import Derived.Lib.SmallJoins
import Derived.Lib.BufferRead
/-
  PLAIN FUNCTIONS (no program): which bytes are letters, digits, of a word; which values may be; how two stand.
-/
namespace Go.Proofs.Ytefekkcmoambhaa
open Go.RowKit

def lowI (c : Int) : Bool := decide (97 ≤ c ∧ c ≤ 122)
def digI (c : Int) : Bool := decide (48 ≤ c ∧ c ≤ 57)
def inwI (c : Int) : Bool := lowI c || digI c || (c == 46) || (c == 95) || (c == 45) || (c == 47)

/-- may bytes be a word? -/
def wordL : List UInt8 → Bool
  | [] => false
  | c :: r => decide (r.length < 64) && lowI c.toNat && r.all (fun x => inwI x.toNat)
def wordB (s : ByteArray) : Bool := wordL s.data.toList

/-- may a value be? -/
def mayB (k n : Int) (s : ByteArray) : Bool :=
  if k = 1 ∨ k = 6 then decide (s.size = 0)
  else if k = 2 then decide (s.size = 0) && decide (n = 0 ∨ n = 1)
  else if k = 3 ∨ k = 4 then decide (n = 0) && decide (s.size ≤ 1000)
  else if k = 5 then decide (s.size = 0) && decide (0 ≤ n ∧ n < 9007199254740992)
  else if k = 7 then decide (n = 0) && wordB s
  else false

/-- a digit of sixteen, as a byte -/
def hexD (n : Nat) : UInt8 := if n < 10 then UInt8.ofNat (48 + n) else UInt8.ofNat (87 + n)
/-- a byte in two digits -/
def hexL (c : UInt8) : List UInt8 := [hexD (c.toNat / 16), hexD (c.toNat % 16)]
/-- does a byte stand as itself? -/
def plainB (c : Int) : Bool := decide (32 ≤ c ∧ c ≤ 126 ∧ c ≠ 34 ∧ c ≠ 92)
/-- a byte as it stands in a text's text -/
def escL (c : UInt8) : List UInt8 := if plainB c.toNat = true then [c] else 92 :: hexL c

/-- how two numbers stand -/
def ordI (a b : Int) : Int := if a < b then -1 else if b < a then 1 else 0
/-- how two texts stand, byte by byte -/
def ordL : List UInt8 → List UInt8 → Int
  | [], [] => 0
  | [], _ :: _ => -1
  | _ :: _, [] => 1
  | x :: l, y :: r => if x.toNat < y.toNat then -1 else if y.toNat < x.toNat then 1 else ordL l r
def ordS (a b : ByteArray) : Int := ordL a.data.toList b.data.toList
/-- how two values stand -/
def ordV (k n : Int) (s : ByteArray) (k' n' : Int) (s' : ByteArray) : Int :=
  if ordI k k' = 0 then (if ordI n n' = 0 then ordS s s' else ordI n n') else ordI k k'

theorem drop_at (s : ByteArray) (k : Nat) (h : k < s.size) : s.data.toList.drop k = s[k] :: s.data.toList.drop (k + 1) := by
  rw [List.drop_eq_getElem_cons (by simpa using h)]; rfl
theorem drop_end (s : ByteArray) (k : Nat) (h : s.size ≤ k) : s.data.toList.drop k = [] := by
  rw [List.drop_eq_nil_iff]; simpa using h

theorem u8_eq {x y : UInt8} (h1 : ¬ x.toNat < y.toNat) (h2 : ¬ y.toNat < x.toNat) : x = y := UInt8.toNat_inj.1 (by omega)

theorem less_ord : ∀ (l r : List UInt8), (Op.bytesLess l r = true → ordL l r = -1) ∧ (Op.bytesLess l r = false → (l == r) = false → ordL l r = 1) ∧ (l = r → ordL l r = 0)
  | [], [] => by simp [Op.bytesLess, ordL]
  | [], _ :: _ => by simp [Op.bytesLess, ordL]
  | _ :: _, [] => by simp [Op.bytesLess, ordL]
  | x :: l, y :: r => by
    have ih := less_ord l r
    simp only [Op.bytesLess, ordL]
    by_cases h1 : x.toNat < y.toNat
    · have h1' : x < y := UInt8.lt_iff_toNat_lt.2 h1
      simp only [h1, h1', if_true, decide_true, Bool.true_or]
      refine ⟨fun _ => by simp, fun h => by simp at h, fun h => ?_⟩
      cases h; omega
    · have h1' : ¬ x < y := fun h => h1 (UInt8.lt_iff_toNat_lt.1 h)
      by_cases h2 : y.toNat < x.toNat
      · have hne : (x == y) = false := by
          rw [beq_eq_false_iff_ne]; intro e; subst e; omega
        simp only [h1, h1', h2, hne, if_true, if_false, decide_false, Bool.false_or, Bool.false_and]
        refine ⟨fun h => by simp at h, fun _ _ => by simp, fun h => ?_⟩
        cases h; omega
      · obtain rfl := u8_eq h1 h2
        simp only [h1, h1', if_false, decide_false, Bool.false_or, beq_self_eq_true, Bool.true_and]
        refine ⟨ih.1, fun h h' => ih.2.1 h ?_, fun h => ih.2.2 (by simpa using h)⟩
        simpa using h'

theorem ord_self (l : List UInt8) : ordL l l = 0 := (less_ord l l).2.2 rfl

theorem ordL_range : ∀ (l r : List UInt8), ordL l r = -1 ∨ ordL l r = 0 ∨ ordL l r = 1
  | [], [] => by simp [ordL]
  | [], _ :: _ => by simp [ordL]
  | _ :: _, [] => by simp [ordL]
  | x :: l, y :: r => by
    have := ordL_range l r
    simp only [ordL]
    split
    · exact .inl rfl
    · split
      · exact .inr (.inr rfl)
      · exact this

theorem ordI_range (a b : Int) : ordI a b = -1 ∨ ordI a b = 0 ∨ ordI a b = 1 := by
  unfold ordI; split
  · exact .inl rfl
  · split
    · exact .inr (.inr rfl)
    · exact .inr (.inl rfl)
theorem ordI_zero {a b : Int} : ordI a b = 0 ↔ a = b := by
  unfold ordI; split
  · constructor <;> intro h <;> first | omega | (subst h; omega)
  · split
    · constructor <;> intro h <;> first | omega | (subst h; omega)
    · constructor <;> intro h <;> omega

end Go.Proofs.Ytefekkcmoambhaa

/-
  PLAIN FUNCTIONS (no program): bytes of numbers, values, keys; how they stand.
-/
namespace Go.Proofs.Ytefekkcmoambhaa
open Go.RowKit

/-- eight bytes of a number, the highest first -/
def be8 (v : Nat) : List UInt8 := [UInt8.ofNat (v / 72057594037927936), UInt8.ofNat (v / 281474976710656), UInt8.ofNat (v / 1099511627776), UInt8.ofNat (v / 4294967296), UInt8.ofNat (v / 16777216), UInt8.ofNat (v / 65536), UInt8.ofNat (v / 256), UInt8.ofNat v]
/-- a number with its sign turned -/
def turnN (n : Int) : Nat := (n + 9223372036854775808).toNat
def numB (n : Int) : List UInt8 := be8 (turnN n)
def strB : List UInt8 → List UInt8
  | [] => [0, 1]
  | c :: r => if c = 0 then 0 :: 255 :: strB r else c :: strB r
/-- what stands behind a value's kind -/
def tailB (k n : Int) (s : ByteArray) : List UInt8 := if k = 2 then [UInt8.ofNat n.toNat] else if k = 1 ∨ k = 5 ∨ k = 6 then numB n else strB s.data.toList
def valB (k n : Int) (s : ByteArray) : List UInt8 := UInt8.ofNat k.toNat :: tailB k n s

theorem be8_len (v : Nat) : (be8 v).length = 8 := rfl
theorem numB_len (n : Int) : (numB n).length = 8 := rfl
theorem strB_len : ∀ l : List UInt8, (strB l).length ≤ 2 * l.length + 2
  | [] => by simp [strB]
  | c :: r => by
    have := strB_len r
    unfold strB
    split <;> simp <;> omega

theorem byteN (v : Nat) : (UInt8.ofNat v).toNat = v % 256 := by rw [UInt8.toNat_ofNat']
theorem ordL_cons (x y : UInt8) (l r : List UInt8) : ordL (x :: l) (y :: r) = if x.toNat < y.toNat then -1 else if y.toNat < x.toNat then 1 else ordL l r := by rw [ordL]
theorem ordL_zero {l r : List UInt8} : ordL l r = 0 ↔ l = r := by
  constructor
  · intro h
    have h1 := less_ord l r
    cases hb : Op.bytesLess l r with
    | true => have := h1.1 hb; omega
    | false =>
      cases he : (l == r) with
      | false => have := h1.2.1 hb he; omega
      | true => exact eq_of_beq he
  · rintro rfl; exact ord_self l

/-- what bytes stand for -/
def horN : List UInt8 → Nat
  | [] => 0
  | c :: r => c.toNat * 256 ^ r.length + horN r
theorem horN_lt : ∀ l : List UInt8, horN l < 256 ^ l.length
  | [] => by simp [horN]
  | c :: r => by
    have ih := horN_lt r
    have hc : c.toNat < 256 := c.toNat_lt
    have h1 : (c.toNat + 1) * 256 ^ r.length ≤ 256 * 256 ^ r.length := Nat.mul_le_mul_right _ (by omega)
    rw [Nat.add_mul, Nat.one_mul] at h1
    show c.toNat * 256 ^ r.length + horN r < 256 ^ (r.length + 1)
    rw [Nat.pow_succ, Nat.mul_comm (256 ^ r.length) 256]
    omega
theorem hor_ord : ∀ (x y r r' : List UInt8), x.length = y.length → ordL (x ++ r) (y ++ r') = if horN x < horN y then -1 else if horN y < horN x then 1 else ordL r r'
  | [], [], r, r', _ => by simp [horN]
  | [], _ :: _, _, _, h => by simp at h
  | _ :: _, [], _, _, h => by simp at h
  | c :: x, d :: y, r, r', h => by
    have hl : x.length = y.length := by simpa using h
    have ih := hor_ord x y r r' hl
    have hx := horN_lt x
    have hy := horN_lt y
    rw [hl] at hx
    have e1 : horN (c :: x) = c.toNat * 256 ^ y.length + horN x := by rw [← hl]; rfl
    have e2 : horN (d :: y) = d.toNat * 256 ^ y.length + horN y := rfl
    simp only [List.cons_append, ordL_cons, ih]
    generalize horN (c :: x) = A at *
    generalize horN (d :: y) = B at *
    generalize 256 ^ y.length = P at *
    subst e1 e2
    by_cases h1 : c.toNat < d.toNat
    · have h2 : (c.toNat + 1) * P ≤ d.toNat * P := Nat.mul_le_mul_right _ h1
      rw [Nat.add_mul, Nat.one_mul] at h2
      rw [if_pos h1, if_pos (by omega)]
    · by_cases h3 : d.toNat < c.toNat
      · have h2 : (d.toNat + 1) * P ≤ c.toNat * P := Nat.mul_le_mul_right _ h3
        rw [Nat.add_mul, Nat.one_mul] at h2
        rw [if_neg h1, if_pos h3, if_neg (by omega), if_pos (by omega)]
      · have h4 : c.toNat = d.toNat := by omega
        rw [if_neg h1, if_neg h3, h4]
        by_cases h5 : horN x < horN y
        · rw [if_pos h5, if_pos (by omega)]
        · by_cases h6 : horN y < horN x
          · rw [if_neg h5, if_pos h6, if_neg (by omega), if_pos (by omega)]
          · rw [if_neg h5, if_neg h6, if_neg (by omega), if_neg (by omega)]
theorem horN_be8 (v : Nat) (h : v < 18446744073709551616) : horN (be8 v) = v := by
  unfold be8
  simp only [horN, byteN, List.length_cons, List.length_nil, Nat.zero_add, Nat.reduceAdd, Nat.reducePow]
  omega
theorem num_ord (a b : Nat) (ha : a < 18446744073709551616) (hb : b < 18446744073709551616) (r r' : List UInt8) :
    ordL (be8 a ++ r) (be8 b ++ r') = if a < b then -1 else if b < a then 1 else ordL r r' := by
  rw [hor_ord _ _ _ _ (by rw [be8_len, be8_len]), horN_be8 _ ha, horN_be8 _ hb]

theorem numB_ord (n m : Int) (hn : -9223372036854775808 ≤ n ∧ n ≤ 9223372036854775807) (hm : -9223372036854775808 ≤ m ∧ m ≤ 9223372036854775807) (r r' : List UInt8) :
    ordL (numB n ++ r) (numB m ++ r') = if ordI n m = 0 then ordL r r' else ordI n m := by
  unfold numB
  rw [num_ord _ _ (by unfold turnN; omega) (by unfold turnN; omega)]
  unfold ordI turnN
  repeat' split
  all_goals first | rfl | omega

theorem str_ord : ∀ (a b r r' : List UInt8), ordL (strB a ++ r) (strB b ++ r') = if ordL a b = 0 then ordL r r' else ordL a b
  | [], [], r, r' => by simp [strB, ordL]
  | [], c :: b, r, r' => by
    unfold strB
    split
    · simp [ordL]
    · rename_i h
      have : c.toNat ≠ 0 := fun e => h (UInt8.toNat_inj.1 (by simpa using e))
      have h0 : (0 : UInt8).toNat = 0 := rfl
      simp only [List.cons_append, ordL_cons, h0]
      rw [if_pos (by omega)]
      simp [ordL]
  | c :: a, [], r, r' => by
    unfold strB
    split
    · simp [ordL]
    · rename_i h
      have : c.toNat ≠ 0 := fun e => h (UInt8.toNat_inj.1 (by simpa using e))
      have h0 : (0 : UInt8).toNat = 0 := rfl
      simp only [List.cons_append, ordL_cons, h0]
      rw [if_neg (by omega), if_pos (by omega)]
      simp [ordL]
  | c :: a, d :: b, r, r' => by
    have ih := str_ord a b r r'
    have h0 : (0 : UInt8).toNat = 0 := rfl
    by_cases hc : c = 0
    · subst hc
      by_cases hd : d = 0
      · subst hd
        simp only [strB, if_true, List.cons_append, ordL_cons, Nat.lt_irrefl, if_false]
        exact ih
      · have : d.toNat ≠ 0 := fun e => hd (UInt8.toNat_inj.1 (by simpa using e))
        have hp : 0 < d.toNat := by omega
        simp [strB, hd, ordL_cons, hp]
    · have hcn : c.toNat ≠ 0 := fun e => hc (UInt8.toNat_inj.1 (by simpa using e))
      by_cases hd : d = 0
      · subst hd
        have hp : 0 < c.toNat := by omega
        simp [strB, hc, ordL_cons, hp]
      · simp only [strB, hc, hd, if_false, List.cons_append, ordL_cons]
        split
        · simp
        · split
          · simp
          · exact ih

theorem may_kind {k n : Int} {s : ByteArray} (h : mayB k n s = true) : 1 ≤ k ∧ k ≤ 7 := by
  unfold mayB at h
  by_cases h1 : 1 ≤ k ∧ k ≤ 7
  · exact h1
  · rw [if_neg (by omega), if_neg (by omega), if_neg (by omega), if_neg (by omega), if_neg (by omega)] at h
    cases h
theorem data_nil {s : ByteArray} (h : s.size = 0) : s.data.toList = [] := by
  rw [← List.length_eq_zero_iff]; exact h
theorem may_num {k n : Int} {s : ByteArray} (h : mayB k n s = true) (hk : k = 1 ∨ k = 5 ∨ k = 6) : s.size = 0 := by
  unfold mayB at h
  rcases hk with rfl | rfl | rfl
  · simpa using h
  · have : s.size = 0 ∧ (0 ≤ n ∧ n < 9007199254740992) := by simpa [-ByteArray.size_eq_zero_iff] using h
    exact this.1
  · simpa using h
theorem may_bool {n : Int} {s : ByteArray} (h : mayB 2 n s = true) : s.size = 0 ∧ (n = 0 ∨ n = 1) := by
  simpa [mayB] using h
theorem may_str {k n : Int} {s : ByteArray} (h : mayB k n s = true) (hk : k = 3 ∨ k = 4 ∨ k = 7) : n = 0 := by
  unfold mayB at h
  rcases hk with rfl | rfl | rfl
  · have := by simpa using h
    exact this.1
  · have := by simpa using h
    exact this.1
  · have := by simpa using h
    exact this.1

theorem val_ord {k n k' n' : Int} {s s' : ByteArray} (hm : mayB k n s = true) (hm' : mayB k' n' s' = true)
    (hn : -9223372036854775808 ≤ n ∧ n ≤ 9223372036854775807) (hn' : -9223372036854775808 ≤ n' ∧ n' ≤ 9223372036854775807) (r r' : List UInt8) :
    ordL (valB k n s ++ r) (valB k' n' s' ++ r') = if ordV k n s k' n' s' = 0 then ordL r r' else ordV k n s k' n' s' := by
  have hk := may_kind hm
  have hk' := may_kind hm'
  unfold valB
  simp only [List.cons_append, ordL_cons, byteN]
  unfold ordV
  by_cases h1 : k < k'
  · rw [if_pos (by omega)]
    have : ordI k k' = -1 := by unfold ordI; rw [if_pos h1]
    rw [this]; simp
  by_cases h2 : k' < k
  · rw [if_neg (by omega), if_pos (by omega)]
    have : ordI k k' = 1 := by unfold ordI; rw [if_neg h1, if_pos h2]
    rw [this]; simp
  obtain rfl : k = k' := by omega
  rw [if_neg (by omega), if_neg (by omega)]
  have hkk : ordI k k = 0 := ordI_zero.2 rfl
  rw [if_pos hkk]
  unfold tailB
  by_cases k2 : k = 2
  · subst k2
    rw [if_pos rfl, if_pos rfl]
    obtain ⟨hs, hn0⟩ := may_bool hm
    obtain ⟨hs', hn0'⟩ := may_bool hm'
    have hS : ordS s s' = 0 := by unfold ordS; rw [data_nil hs, data_nil hs']; rfl
    rw [hS]
    simp only [List.cons_append, List.nil_append, ordL_cons, byteN]
    unfold ordI
    rcases hn0 with rfl | rfl <;> rcases hn0' with rfl | rfl <;> simp
  · rw [if_neg k2, if_neg k2]
    by_cases hkn : k = 1 ∨ k = 5 ∨ k = 6
    · rw [if_pos hkn, if_pos hkn, numB_ord n n' hn hn']
      have hS : ordS s s' = 0 := by unfold ordS; rw [data_nil (may_num hm hkn), data_nil (may_num hm' hkn)]; rfl
      rw [hS]
      by_cases h0 : ordI n n' = 0
      · rw [if_pos h0, if_pos h0]; simp
      · rw [if_neg h0, if_neg h0, if_neg h0]
    · rw [if_neg hkn, if_neg hkn, str_ord]
      have e1 := may_str hm (by omega)
      have e2 := may_str hm' (by omega)
      subst e1 e2
      rfl

/-- a part of a key -/
structure PartP where
  v : Bool
  n : Int
  k : Int
  m : Int
  s : ByteArray
def partB (p : PartP) : List UInt8 := if p.v then valB p.k p.m p.s else numB p.n
def partMay (p : PartP) : Bool := !p.v || mayB p.k p.m p.s
def keyB (l : List PartP) : List UInt8 := l.flatMap partB
def partOk (p : PartP) : Prop := (-9223372036854775808 ≤ p.n ∧ p.n ≤ 9223372036854775807) ∧ (-9223372036854775808 ≤ p.m ∧ p.m ≤ 9223372036854775807)
def ordP (a b : PartP) : Int := if a.v then ordV a.k a.m a.s b.k b.m b.s else ordI a.n b.n
def ordK : List PartP → List PartP → Int
  | a :: l, b :: r => if ordP a b = 0 then ordK l r else ordP a b
  | _, _ => 0

theorem part_ord {a b : PartP} (hv : a.v = b.v) (ha : partMay a = true) (hb : partMay b = true) (oa : partOk a) (ob : partOk b) (r r' : List UInt8) :
    ordL (partB a ++ r) (partB b ++ r') = if ordP a b = 0 then ordL r r' else ordP a b := by
  unfold partB ordP
  rw [← hv]
  unfold partMay at ha hb
  rw [← hv] at hb
  cases h : a.v with
  | true =>
    rw [h] at ha hb
    simp only [if_true]
    exact val_ord (by simpa using ha) (by simpa using hb) oa.2 ob.2 r r'
  | false =>
    simp only [Bool.false_eq_true, if_false]
    exact numB_ord _ _ oa.1 ob.1 r r'

theorem key_ord : ∀ (a b : List PartP), a.map (·.v) = b.map (·.v) → (∀ p ∈ a, partMay p = true ∧ partOk p) → (∀ p ∈ b, partMay p = true ∧ partOk p) → ordL (keyB a) (keyB b) = ordK a b
  | [], [], _, _, _ => by simp [keyB, ordK, ordL]
  | [], _ :: _, h, _, _ => by simp at h
  | _ :: _, [], h, _, _ => by simp at h
  | p :: a, q :: b, h, ha, hb => by
    have ih := key_ord a b (by simp at h ⊢; exact h.2) (fun x hx => ha x (by simp [hx])) (fun x hx => hb x (by simp [hx]))
    have hp := ha p (by simp)
    have hq := hb q (by simp)
    have hv : p.v = q.v := by simp at h; exact h.1
    show ordL (partB p ++ keyB a) (partB q ++ keyB b) = _
    rw [part_ord hv hp.1 hq.1 hp.2 hq.2, ih, ordK]

/-- no value's bytes begin another one's -/
theorem val_apart {k n k' n' : Int} {s s' : ByteArray} (hm : mayB k n s = true) (hm' : mayB k' n' s' = true)
    (hn : -9223372036854775808 ≤ n ∧ n ≤ 9223372036854775807) (hn' : -9223372036854775808 ≤ n' ∧ n' ≤ 9223372036854775807) (h : valB k n s <+: valB k' n' s') : ordV k n s k' n' s' = 0 := by
  obtain ⟨t, ht⟩ := h
  have h1 := val_ord hm hm' hn hn' t []
  rw [ht, List.append_nil, ord_self] at h1
  by_cases h0 : ordV k n s k' n' s' = 0
  · exact h0
  · rw [if_neg h0] at h1; exact h1.symm

/-- the end of a beginning, from its front -/
def endF : List UInt8 → Option (List UInt8)
  | [] => none
  | c :: r => match endF r with
    | some e => some (c :: e)
    | none => if c = 255 then none else some [c + 1]
theorem endF_all : ∀ t : List UInt8, (∀ c ∈ t, c = 255) → endF t = none
  | [], _ => rfl
  | c :: r, h => by
    rw [endF, endF_all r (fun x hx => h x (by simp [hx]))]
    simp [h c (by simp)]
theorem endF_at : ∀ (p : List UInt8) (c : UInt8) (t : List UInt8), (∀ c ∈ t, c = 255) → c ≠ 255 → endF (p ++ c :: t) = some (p ++ [c + 1])
  | [], c, t, h, hc => by
    show endF (c :: t) = _
    rw [endF, endF_all t h]
    simp [hc]
  | d :: p, c, t, h, hc => by
    show endF (d :: (p ++ c :: t)) = _
    rw [endF, endF_at p c t h hc]
    rfl
theorem ordL_nil_right (l : List UInt8) : 0 ≤ ordL l [] := by cases l <;> simp [ordL]
theorem ordL_nil_left (l : List UInt8) : ordL [] l ≤ 0 := by cases l <;> simp [ordL]
theorem endF_within : ∀ (b x : List UInt8), b <+: x ↔ (ordL b x ≤ 0 ∧ ∀ e, endF b = some e → ordL x e < 0)
  | [], x => by simp [endF, ordL_nil_left]
  | c :: r, [] => by simp [ordL]
  | c :: r, d :: y => by
    have ih := endF_within r y
    have hc : c.toNat < 256 := c.toNat_lt
    have hd : d.toNat < 256 := d.toNat_lt
    have he : c = d ↔ c.toNat = d.toNat := UInt8.toNat_inj.symm
    rw [List.cons_prefix_cons, ih, he, ordL_cons]
    rw [endF]
    cases hr : endF r with
    | some e =>
      simp only [Option.some.injEq, forall_eq']
      rw [ordL_cons]
      by_cases h1 : c.toNat < d.toNat
      · rw [if_pos h1, if_neg (by omega), if_pos h1]
        constructor
        · intro h; omega
        · intro h; omega
      · by_cases h2 : d.toNat < c.toNat
        · rw [if_neg h1, if_pos h2]
          constructor
          · intro h; omega
          · intro h; omega
        · rw [if_neg h1, if_neg h2, if_neg h2, if_neg h1]
          constructor
          · intro h; exact h.2
          · intro h; exact ⟨by omega, h⟩
    | none =>
      simp only [reduceCtorEq, false_implies, implies_true, and_true]
      by_cases h255 : c = 255
      · have : c.toNat = 255 := by rw [h255]; rfl
        simp only [h255, if_true, reduceCtorEq, false_implies, implies_true, and_true]
        rw [h255] at this hc
        by_cases h2 : d.toNat < (255 : UInt8).toNat
        · rw [if_neg (by omega), if_pos h2]
          constructor
          · intro h; omega
          · intro h; omega
        · rw [if_neg (by omega), if_neg h2]
          constructor
          · intro h; exact h.2
          · intro h; exact ⟨by omega, h⟩
      · have hne : c.toNat ≠ 255 := fun e => h255 (UInt8.toNat_inj.1 e)
        have hs : (c + 1).toNat = c.toNat + 1 := by rw [UInt8.toNat_add]; show (c.toNat + 1) % 256 = _; omega
        have hy := ordL_nil_right y
        simp only [h255, if_false, Option.some.injEq, forall_eq', ordL_cons, hs]
        by_cases h1 : c.toNat < d.toNat
        · rw [if_pos h1]
          by_cases h3 : c.toNat + 1 < d.toNat
          · rw [if_neg (by omega), if_pos h3]
            constructor
            · intro h; omega
            · intro h; omega
          · rw [if_neg (by omega), if_neg h3]
            constructor
            · intro h; omega
            · intro h; omega
        · by_cases h2 : d.toNat < c.toNat
          · rw [if_neg h1, if_pos h2]
            constructor
            · intro h; omega
            · intro h; omega
          · rw [if_neg h1, if_neg h2, if_pos (by omega)]
            constructor
            · intro h; exact ⟨h.2, by omega⟩
            · intro h; exact ⟨by omega, h.1⟩

end Go.Proofs.Ytefekkcmoambhaa

/-
  CONTRACTS of the smallest functions: one byte in, a bool out; three orders.
-/
namespace Go.Proofs.Ytefekkcmoambhaa
open Go.RowKit

theorem ret_bool {a b : Bool} (h : a = b) : Ending.returned (.bool a) = .returned (.bool b) := by rw [h]

set_option maxHeartbeats 400000 in
theorem isLetter_any (c : Int) (w : World) :
    Calls Try.prog 170 #[.int .u8 c] w fun e w' => e = .returned (.bool (lowI c)) ∧ w = w' := by
  by_cases h1 : 97 ≤ c
  · go_enter Try.func170, Try.ntmps170
    go_wp2
    go_ret
    exact ⟨ret_bool (by simp [lowI] <;> omega), rfl⟩
  · go_enter Try.func170, Try.ntmps170
    go_wp2
    go_ret
    exact ⟨ret_bool (by simp [lowI] <;> omega), rfl⟩

set_option maxHeartbeats 400000 in
theorem lower_any (c : Int) (w : World) :
    Calls Try.prog 132 #[.int .u8 c] w fun e w' => e = .returned (.bool (lowI c)) ∧ w = w' := by
  by_cases h1 : 97 ≤ c
  · go_enter Try.func132, Try.ntmps132
    go_wp2
    go_ret
    exact ⟨ret_bool (by simp [lowI] <;> omega), rfl⟩
  · go_enter Try.func132, Try.ntmps132
    go_wp2
    go_ret
    exact ⟨ret_bool (by simp [lowI] <;> omega), rfl⟩

set_option maxHeartbeats 400000 in
theorem digit_any (c : Int) (w : World) :
    Calls Try.prog 133 #[.int .u8 c] w fun e w' => e = .returned (.bool (digI c)) ∧ w = w' := by
  by_cases h1 : 48 ≤ c
  · go_enter Try.func133, Try.ntmps133
    go_wp2
    go_ret
    exact ⟨ret_bool (by simp [digI] <;> omega), rfl⟩
  · go_enter Try.func133, Try.ntmps133
    go_wp2
    go_ret
    exact ⟨ret_bool (by simp [digI] <;> omega), rfl⟩

set_option maxHeartbeats 800000 in
theorem inWord_any (c : Int) (w : World) :
    Calls Try.prog 171 #[.int .u8 c] w fun e w' => e = .returned (.bool (inwI c)) ∧ w = w' := by
  go_enter Try.func171, Try.ntmps171
  go_wp2_with (go_at_call 170; refine (isLetter_any _ _).mono ?_; rintro e w' ⟨rfl, rfl⟩)
  all_goals go_ret
  all_goals exact ⟨ret_bool (by simp [inwI, digI, *] <;> omega), rfl⟩

theorem ret_i64 {a b : Int} (h : a = b) : Ending.returned (.int .i64 a) = .returned (.int .i64 b) := by rw [h]

set_option maxHeartbeats 400000 in
theorem cmpInt_any (a b : Int) (w : World) :
    Calls Try.prog 90 #[.int .i64 a, .int .i64 b] w fun e w' => e = .returned (.int .i64 (ordI a b)) ∧ w = w' := by
  go_enter Try.func90, Try.ntmps90
  go_wp2
  all_goals go_ret
  all_goals exact ⟨ret_i64 (by unfold ordI; split <;> (try split) <;> omega), rfl⟩

set_option maxHeartbeats 400000 in
theorem cmpI64_any (a b : Int) (w : World) :
    Calls Try.prog 56 #[.int .i64 a, .int .i64 b] w fun e w' => e = .returned (.int .i64 (ordI a b)) ∧ w = w' := by
  go_enter Try.func56, Try.ntmps56
  go_wp2
  all_goals go_ret
  all_goals exact ⟨ret_i64 (by unfold ordI; split <;> (try split) <;> omega), rfl⟩

theorem ordS_lt {a b : ByteArray} (h : Op.bytesLess a.toList b.toList = true) : ordS a b = -1 := by
  rw [ByteArray.toList_eq, ByteArray.toList_eq] at h; exact (less_ord _ _).1 h
theorem ordS_gt {a b : ByteArray} (h : Op.bytesLess a.toList b.toList = false) (h' : (!a.toList == b.toList) = true) : ordS a b = 1 := by
  rw [ByteArray.toList_eq, ByteArray.toList_eq] at h h'; exact (less_ord _ _).2.1 h (by simpa using h')
theorem ordS_eq {a b : ByteArray} (h' : (!a.toList == b.toList) = false) : ordS a b = 0 := by
  rw [ByteArray.toList_eq, ByteArray.toList_eq] at h'; exact (less_ord _ _).2.2 (by simpa using h')

set_option maxHeartbeats 400000 in
theorem cmpStr_any (a b : ByteArray) (w : World) :
    Calls Try.prog 91 #[.string a, .string b] w fun e w' => e = .returned (.int .i64 (ordS a b)) ∧ w = w' := by
  go_enter Try.func91, Try.ntmps91
  go_wp2
  all_goals go_ret
  · exact ⟨ret_i64 (by rw [ordS_lt ‹_›]), rfl⟩
  · exact ⟨ret_i64 (by rw [ordS_gt ‹_› ‹_›]), rfl⟩
  · exact ⟨ret_i64 (by rw [ordS_eq ‹_›]), rfl⟩

end Go.Proofs.Ytefekkcmoambhaa

/-
  CONTRACTS: eight (a number's bytes in an array).
-/
namespace Go.Proofs.Ytefekkcmoambhaa
open Go.RowKit

theorem xor63 (a : Nat) (ha : a < 18446744073709551616) : a ^^^ 9223372036854775808 = if a < 9223372036854775808 then a + 9223372036854775808 else a - 9223372036854775808 := by
  have h1 := Nat.xor_mod_two_pow (a := a) (b := 9223372036854775808) (n := 63)
  have h2 := Nat.xor_div_two_pow (a := a) (b := 9223372036854775808) (n := 63)
  have e : (2 : Nat) ^ 63 = 9223372036854775808 := by decide
  rw [e] at h1 h2
  rw [Nat.mod_self, Nat.xor_zero] at h1
  rw [Nat.div_self (by decide)] at h2
  have h3 : a / 9223372036854775808 = 0 ∨ a / 9223372036854775808 = 1 := by omega
  rcases h3 with h3 | h3
  · rw [h3] at h2
    have : (0 : Nat) ^^^ 1 = 1 := rfl
    rw [this] at h2
    split <;> omega
  · rw [h3] at h2
    have : (1 : Nat) ^^^ 1 = 0 := rfl
    rw [this] at h2
    split <;> omega
theorem turn_lt {n : Int} (h1 : n ≤ 9223372036854775807) : turnN n < 18446744073709551616 := by unfold turnN; omega
theorem turned {n : Int} (h0 : -9223372036854775808 ≤ n) (h1 : n ≤ 9223372036854775807) : bits .xor .u64 (IntKind.u64.wrap n) 9223372036854775808 = ((turnN n : Nat) : Int) := by
  have hw : IntKind.u64.wrap n = ((n % 18446744073709551616).toNat : Int) := by
    rw [IntKind.wrap_u64]; omega
  rw [hw, show (9223372036854775808 : Int) = ((9223372036854775808 : Nat) : Int) from rfl, u64_xor_nat _ _ (by omega) (by decide), xor63 _ (by omega)]
  unfold turnN
  split <;> omega

/-- the eight cells behind i rounds -/
def eightC (T i : Nat) : Array Value := (((be8 T).take i).map (fun c : UInt8 => Value.int .u8 c.toNat) ++ List.replicate (8 - i) (Value.int .u8 0)).toArray

theorem results_cell_only {fn : Func} {p : Tmp} {ty : TypeId} (h : fn.results = #[.cell p ty]) (tmps : Array Value) (P : Program) (w : World) :
    (results fn tmps).run P w = ((asAddr (tmps.getD p undef)).run P w).andThen fun a w₁ => (loadVar ty a).run P w₁ := by
  simp only [results, h]
  simp [Sem.run_bind]

theorem eight_step (T : Nat) (W0 : World) (i : Nat) (hi : i < 8) (x : Int) (hx : x = ((be8 T)[i]'(by rw [be8_len]; exact hi)).toNat) :
    Hid (W0.alloc (.cells ((eightC T i).setIfInBounds i (.int .u8 x)) 168) = W0.alloc (.cells (eightC T (i + 1)) 168)) := by
  show _ = _
  subst hx
  match i, hi with
  | 0, _ => rfl
  | 1, _ => rfl
  | 2, _ => rfl
  | 3, _ => rfl
  | 4, _ => rfl
  | 5, _ => rfl
  | 6, _ => rfl
  | 7, _ => rfl

set_option maxRecDepth 100000 in
set_option maxHeartbeats 4000000 in
theorem eight_any (n : Int) (h0 : -9223372036854775808 ≤ n) (h1 : n ≤ 9223372036854775807) (w : World) :
    Calls Try.prog 135 #[.int .i64 n] w fun e w' => e = .returned (.agg ((numB n).map (fun c : UInt8 => Value.int .u8 c.toNat)).toArray) ∧ Below w.heap.size w w' := by
  have ht := turned h0 h1
  obtain ⟨T, hT⟩ : ∃ T, turnN n = T := ⟨_, rfl⟩
  have hlt : T < 18446744073709551616 := by rw [← hT]; exact turn_lt h1
  rw [hT] at ht
  have HN : Hid (numB n = be8 T) := by show _ = _; unfold numB; rw [hT]
  clear hT
  go_enter Try.func135, Try.ntmps135
  go_wp2
  clear ht
  obtain ⟨W0, hW0⟩ : ∃ W0, (w.alloc (Obj.cells #[Value.int .u8 0, Value.int .u8 0, Value.int .u8 0, Value.int .u8 0, Value.int .u8 0, Value.int .u8 0, Value.int .u8 0, Value.int .u8 0] 168)) = W0 := ⟨_, rfl⟩
  have hz0 : W0.heap.size = w.heap.size + 1 := by rw [← hW0]; simp
  go_loopg [9] 8 (fun g x wr => ∃ i : Nat, x = .int .i64 i ∧ i + g = 8 ∧ Hid (wr = W0.alloc (.cells (eightC T i) 168)))
  case atStart => exact ⟨0, rfl, rfl, by show _ = _; rw [← hW0]; rfl⟩
  case round =>
    obtain ⟨i, rfl, hi, HW⟩ := hrel
    have h9 : i = 0 ∨ i = 1 ∨ i = 2 ∨ i = 3 ∨ i = 4 ∨ i = 5 ∨ i = 6 ∨ i = 7 ∨ i = 8 := by omega
    have hw := HW.out
    subst hw
    have HW0 := Lib.hid hW0
    clear hW0 HW
    rcases h9 with rfl | rfl | rfl | rfl | rfl | rfl | rfl | rfl | rfl
    · go_wp2
      go_roundg 7
      case measure => omega
      case rel => exact ⟨1, rfl, by omega, eight_step T W0 0 (by decide) _ (by simp only [be8, List.getElem_cons_zero, byteN]; omega)⟩
    · go_wp2
      go_roundg 6
      case measure => omega
      case rel => exact ⟨2, rfl, by omega, eight_step T W0 1 (by decide) _ (by simp only [be8, List.getElem_cons_zero, List.getElem_cons_succ, byteN]; omega)⟩
    · go_wp2
      go_roundg 5
      case measure => omega
      case rel => exact ⟨3, rfl, by omega, eight_step T W0 2 (by decide) _ (by simp only [be8, List.getElem_cons_zero, List.getElem_cons_succ, byteN]; omega)⟩
    · go_wp2
      go_roundg 4
      case measure => omega
      case rel => exact ⟨4, rfl, by omega, eight_step T W0 3 (by decide) _ (by simp only [be8, List.getElem_cons_zero, List.getElem_cons_succ, byteN]; omega)⟩
    · go_wp2
      go_roundg 3
      case measure => omega
      case rel => exact ⟨5, rfl, by omega, eight_step T W0 4 (by decide) _ (by simp only [be8, List.getElem_cons_zero, List.getElem_cons_succ, byteN]; omega)⟩
    · go_wp2
      go_roundg 2
      case measure => omega
      case rel => exact ⟨6, rfl, by omega, eight_step T W0 5 (by decide) _ (by simp only [be8, List.getElem_cons_zero, List.getElem_cons_succ, byteN]; omega)⟩
    · go_wp2
      go_roundg 1
      case measure => omega
      case rel => exact ⟨7, rfl, by omega, eight_step T W0 6 (by decide) _ (by simp only [be8, List.getElem_cons_zero, List.getElem_cons_succ, byteN]; omega)⟩
    · go_wp2
      go_roundg 0
      case measure => omega
      case rel => exact ⟨8, rfl, by omega, eight_step T W0 7 (by decide) _ (by simp only [be8, List.getElem_cons_zero, List.getElem_cons_succ, byteN]; omega)⟩
    · have h8 : eightC T 8 = #[.int .u8 (UInt8.ofNat (T / 72057594037927936)).toNat, .int .u8 (UInt8.ofNat (T / 281474976710656)).toNat, .int .u8 (UInt8.ofNat (T / 1099511627776)).toNat, .int .u8 (UInt8.ofNat (T / 4294967296)).toNat, .int .u8 (UInt8.ofNat (T / 16777216)).toNat, .int .u8 (UInt8.ofNat (T / 65536)).toNat, .int .u8 (UInt8.ofNat (T / 256)).toNat, .int .u8 (UInt8.ofNat T).toNat] := rfl
      rw [h8]
      have hw0 := HW0.out
      subst hw0
      have H8 := Lib.hid h8
      clear h8 HW0 hz0
      go_wp2
      refine bodyPost_ret (v := .agg ((numB n).map (fun c : UInt8 => Value.int .u8 c.toNat)).toArray) ?_ rfl ⟨rfl, ?_⟩
      · rw [results_cell_only rfl]
        go_simp
        rw [HN.out]
        simp [be8]
      · exact ((Below.refl _ _).alloc (Nat.le_refl _) _).alloc (by simp) _
end Go.Proofs.Ytefekkcmoambhaa

/-
  WORDS FOR SLICES OF BYTES: a row of the call's own; what an append leaves.
-/
namespace Go.Proofs.Ytefekkcmoambhaa
open Go.RowKit

theorem info8 : (Try.prog.info? 5).map (fun i => (i.zero, i.size, i.bytes)) = some (some (.int .u8 0), 1, 1) := by kernel_rfl
/-- bytes as cells -/
def cellsL (l : List UInt8) : List Value := l.map (fun c : UInt8 => Value.int .u8 c.toNat)
theorem cellsL_len (l : List UInt8) : (cellsL l).length = l.length := List.length_map _
theorem cellsL_app (l m : List UInt8) : cellsL (l ++ m) = cellsL l ++ cellsL m := List.map_append
theorem cellsL_one (l : List UInt8) : ∀ u ∈ cellsL l, u.oneCell' = true := by
  intro u hu
  obtain ⟨c, _, rfl⟩ := List.mem_map.1 hu
  rfl
theorem cellsL_at {l : List UInt8} {j : Nat} {u : Value} (h : (cellsL l)[j]? = some u) : ∃ c, l[j]? = some c ∧ u = .int .u8 c.toNat := by
  unfold cellsL at h
  rw [List.getElem?_map] at h
  cases hl : l[j]? with
  | none => rw [hl] at h; cases h
  | some c => rw [hl] at h; exact ⟨c, rfl, by simpa using h.symm⟩

/-- a slice of bytes in blocks from B on, which the call has to itself -/
def OwnB (W : World) (B : Nat) (v : Value) (l : List UInt8) : Prop := W.ownsRow B 5 1 v l.length (cellsL l)
theorem ownB_nil (W : World) (B : Nat) : OwnB W B (.slice none 0 0) [] := World.ownsRow_nil _ _ _ _
theorem OwnB.next {W W' : World} {B : Nat} {v : Value} {l : List UInt8} (h : OwnB W B v l) (hb : Below W.heap.size W W') : OwnB W' B v l := by
  refine World.ownsRow.kept (row := none) h ⟨hb.os, hb.tape, hb.output, hb.size, fun k hk _ => hb.block k hk⟩ ?_
  rcases h.2 with ⟨rfl, _⟩ | ⟨g, cap, cur, rfl, _, _⟩
  · exact .inl rfl
  · exact .inr (by simp [Value.ownBlock])
theorem OwnB.alloc {W : World} {B : Nat} {v : Value} {l : List UInt8} (h : OwnB W B v l) (o : Obj) : OwnB (W.alloc o) B v l := World.ownsRow.alloc h o
theorem OwnB.from_ {W : World} {B B' : Nat} {v : Value} {l : List UInt8} (h : OwnB W B v l) (hB : B' ≤ B) : OwnB W B' v l := by
  refine ⟨h.1, ?_⟩
  rcases h.2 with h0 | ⟨g, cap, cur, e, hb, r⟩
  · exact .inl h0
  · exact .inr ⟨g, cap, cur, e, by omega, r⟩
/-- below B nothing is turned by what grows such a row -/
theorem below_own {W w1 : World} {B : Nat} {v : Value} {l : List UInt8} (h : OwnB W B v l) (hg : W.grownBy w1 v.ownBlock) (hB : B ≤ W.heap.size) : Below B W w1 :=
  (Below.refl B W).grown hg hB (fun k hk => (World.ownsRow.lt h k hk).1)
/-- a block of another type is none of such a row's -/
theorem blk_own {W : World} {b B : Nat} {t : TypeId} {cs : Array Value} {fr : Nat × Nat} {v : Value} {l : List UInt8} (hb : W.heap[b]? = some (.cells cs t fr)) (ht : t ≠ 5) (h : OwnB W B v l) : some b ≠ v.ownBlock := by
  rcases h.2 with ⟨rfl, _⟩ | ⟨g, cap, cur, rfl, _, hgb, _⟩
  · simp [Value.ownBlock]
  · intro e
    have e2 : b = g := by simpa [Value.ownBlock] using e
    subst e2
    rw [hb] at hgb
    injection hgb with hgb
    injection hgb with _ hgb _
    exact ht hgb
theorem add0 (b j : Nat) : (⟨b, 0, none⟩ : Addr).add j = ⟨b, j, none⟩ := by unfold Addr.add; split <;> simp_all
/-- the cells of a new block -/
theorem cell_lit (W : World) (cs : Array Value) (t : TypeId) (j : Nat) (u : Value) (h : cs.toList[j]? = some u) : (W.alloc (.cells cs t)).cell? ((⟨W.heap.size, 0, none⟩ : Addr).add j) = some u := by
  rw [add0]
  simp only [World.cell?, heap_alloc_new]
  simpa using h
/-- a text of such a row -/
theorem ownB_string (W : World) (v : Value) (B : Nat) (l : List UInt8) (h : OwnB W B v l) : (convert 43 9 v).run Try.prog W = .ok (.string ⟨l.toArray⟩) W := by
  have hr : W.ownsRow B 5 1 v l.length (l.map (fun c : UInt8 => Value.int .u8 c.toNat)) := h
  rcases hr.2 with ⟨rfl, h0⟩ | ⟨g, cap, cur, rfl, _, hg, _, _, _, ht⟩
  · obtain rfl : l = [] := List.length_eq_zero_iff.1 h0
    exact Lib.run_convert_nil_bytes W _ _ _ 0 Try.underlying43 Try.underlying5 Try.underlying9
  · refine run_convert_bytes_back W _ _ _ ⟨g, 0, none⟩ cap l Try.underlying43 Try.underlying5 Try.underlying9 (fun j hj => ?_)
    have h1 := hr.cellAt j (by omega)
    rw [List.getElem?_map, List.getElem?_eq_getElem hj] at h1
    rw [add0]; simpa using h1

/-- What a call that appends leaves. -/
def App (W : World) (B : Nat) (l : List UInt8) (e : Ending) (w' : World) : Prop := ∃ v', e = .returned v' ∧ OwnB w' B v' l ∧ Below B W w'

end Go.Proofs.Ytefekkcmoambhaa
