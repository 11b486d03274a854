import Derived.Below
import Derived.Laws.Strings
import Derived.Test.YtofmfainhflmmaaProg
import Derived.WalkKit
import Derived.WalkSpells
import Derived.WalkLawsBesides
import Derived.Lib.Hide
import Derived.RegionTactic
import Derived.ChangeAlike
import Derived.Deep.QuietTactic
import Derived.BigQuiet
/-
  PLAIN FUNCTIONS (no program): which bytes are letters, digits, of a word; which values may be; how two stand.
-/
namespace Go.Proofs.Ytofmfainhflmmaa
open Go.RowKit

def lowI (c : Int) : Bool := decide (97 ≤ c ∧ c ≤ 122)
def digI (c : Int) : Bool := decide (48 ≤ c ∧ c ≤ 57)
def inwI (c : Int) : Bool := lowI c || digI c || (c == 46) || (c == 95) || (c == 45) || (c == 47)

/-- may bytes be a word? -/
def wordL : List UInt8 → Bool
  | [] => false
  | c :: r => decide (r.length < 64) && lowI c.toNat && r.all (fun x => inwI x.toNat)
def wordB (s : ByteArray) : Bool := wordL s.data.toList

/-- may a value be? -/
def mayB (k n : Int) (s : ByteArray) : Bool :=
  if k = 1 ∨ k = 6 then decide (s.size = 0)
  else if k = 2 then decide (s.size = 0) && decide (n = 0 ∨ n = 1)
  else if k = 3 ∨ k = 4 then decide (n = 0) && decide (s.size ≤ 1000)
  else if k = 5 then decide (s.size = 0) && decide (0 ≤ n ∧ n < 9007199254740992)
  else if k = 7 then decide (n = 0) && wordB s
  else false

/-- a digit of sixteen, as a byte -/
def hexD (n : Nat) : UInt8 := if n < 10 then UInt8.ofNat (48 + n) else UInt8.ofNat (87 + n)
/-- a byte in two digits -/
def hexL (c : UInt8) : List UInt8 := [hexD (c.toNat / 16), hexD (c.toNat % 16)]
/-- does a byte stand as itself? -/
def plainB (c : Int) : Bool := decide (32 ≤ c ∧ c ≤ 126 ∧ c ≠ 34 ∧ c ≠ 92)
/-- a byte as it stands in a text's text -/
def escL (c : UInt8) : List UInt8 := if plainB c.toNat = true then [c] else 92 :: hexL c

/-- how two numbers stand -/
def ordI (a b : Int) : Int := if a < b then -1 else if b < a then 1 else 0
/-- how two texts stand, byte by byte -/
def ordL : List UInt8 → List UInt8 → Int
  | [], [] => 0
  | [], _ :: _ => -1
  | _ :: _, [] => 1
  | x :: l, y :: r => if x.toNat < y.toNat then -1 else if y.toNat < x.toNat then 1 else ordL l r
def ordS (a b : ByteArray) : Int := ordL a.data.toList b.data.toList
/-- how two values stand -/
def ordV (k n : Int) (s : ByteArray) (k' n' : Int) (s' : ByteArray) : Int :=
  if ordI k k' = 0 then (if ordI n n' = 0 then ordS s s' else ordI n n') else ordI k k'

theorem drop_at (s : ByteArray) (k : Nat) (h : k < s.size) : s.data.toList.drop k = s[k] :: s.data.toList.drop (k + 1) := by
  rw [List.drop_eq_getElem_cons (by simpa using h)]; rfl
theorem drop_end (s : ByteArray) (k : Nat) (h : s.size ≤ k) : s.data.toList.drop k = [] := by
  rw [List.drop_eq_nil_iff]; simpa using h

theorem u8_eq {x y : UInt8} (h1 : ¬ x.toNat < y.toNat) (h2 : ¬ y.toNat < x.toNat) : x = y := UInt8.toNat_inj.1 (by omega)

theorem less_ord : ∀ (l r : List UInt8), (Op.bytesLess l r = true → ordL l r = -1) ∧ (Op.bytesLess l r = false → (l == r) = false → ordL l r = 1) ∧ (l = r → ordL l r = 0)
  | [], [] => by simp [Op.bytesLess, ordL]
  | [], _ :: _ => by simp [Op.bytesLess, ordL]
  | _ :: _, [] => by simp [Op.bytesLess, ordL]
  | x :: l, y :: r => by
    have ih := less_ord l r
    simp only [Op.bytesLess, ordL]
    by_cases h1 : x.toNat < y.toNat
    · have h1' : x < y := UInt8.lt_iff_toNat_lt.2 h1
      simp only [h1, h1', if_true, decide_true, Bool.true_or]
      refine ⟨fun _ => by simp, fun h => by simp at h, fun h => ?_⟩
      cases h; omega
    · have h1' : ¬ x < y := fun h => h1 (UInt8.lt_iff_toNat_lt.1 h)
      by_cases h2 : y.toNat < x.toNat
      · have hne : (x == y) = false := by
          rw [beq_eq_false_iff_ne]; intro e; subst e; omega
        simp only [h1, h1', h2, hne, if_true, if_false, decide_false, Bool.false_or, Bool.false_and]
        refine ⟨fun h => by simp at h, fun _ _ => by simp, fun h => ?_⟩
        cases h; omega
      · obtain rfl := u8_eq h1 h2
        simp only [h1, h1', if_false, decide_false, Bool.false_or, beq_self_eq_true, Bool.true_and]
        refine ⟨ih.1, fun h h' => ih.2.1 h ?_, fun h => ih.2.2 (by simpa using h)⟩
        simpa using h'

theorem ord_self (l : List UInt8) : ordL l l = 0 := (less_ord l l).2.2 rfl

theorem ordL_range : ∀ (l r : List UInt8), ordL l r = -1 ∨ ordL l r = 0 ∨ ordL l r = 1
  | [], [] => by simp [ordL]
  | [], _ :: _ => by simp [ordL]
  | _ :: _, [] => by simp [ordL]
  | x :: l, y :: r => by
    have := ordL_range l r
    simp only [ordL]
    split
    · exact .inl rfl
    · split
      · exact .inr (.inr rfl)
      · exact this

theorem ordI_range (a b : Int) : ordI a b = -1 ∨ ordI a b = 0 ∨ ordI a b = 1 := by
  unfold ordI; split
  · exact .inl rfl
  · split
    · exact .inr (.inr rfl)
    · exact .inr (.inl rfl)
theorem ordI_zero {a b : Int} : ordI a b = 0 ↔ a = b := by
  unfold ordI; split
  · constructor <;> intro h <;> first | omega | (subst h; omega)
  · split
    · constructor <;> intro h <;> first | omega | (subst h; omega)
    · constructor <;> intro h <;> omega

end Go.Proofs.Ytofmfainhflmmaa

/-
  CONTRACTS of the smallest functions: one byte in, a bool out; three orders.
-/
namespace Go.Proofs.Ytofmfainhflmmaa
open Go.RowKit

theorem ret_bool {a b : Bool} (h : a = b) : Ending.returned (.bool a) = .returned (.bool b) := by rw [h]

theorem ret_i64 {a b : Int} (h : a = b) : Ending.returned (.int .i64 a) = .returned (.int .i64 b) := by rw [h]

set_option maxHeartbeats 400000 in
theorem cmpInt_any (a b : Int) (w : World) :
    Calls Try.prog 111 #[.int .i64 a, .int .i64 b] w fun e w' => e = .returned (.int .i64 (ordI a b)) ∧ w = w' := by
  go_enter Try.func111, Try.ntmps111
  go_wp2
  all_goals go_ret
  all_goals exact ⟨ret_i64 (by unfold ordI; split <;> (try split) <;> omega), rfl⟩

set_option maxHeartbeats 400000 in
theorem cmpI64_any (a b : Int) (w : World) :
    Calls Try.prog 112 #[.int .i64 a, .int .i64 b] w fun e w' => e = .returned (.int .i64 (ordI a b)) ∧ w = w' := by
  go_enter Try.func112, Try.ntmps112
  go_wp2
  all_goals go_ret
  all_goals exact ⟨ret_i64 (by unfold ordI; split <;> (try split) <;> omega), rfl⟩

theorem ordS_lt {a b : ByteArray} (h : Op.bytesLess a.toList b.toList = true) : ordS a b = -1 := by
  rw [ByteArray.toList_eq, ByteArray.toList_eq] at h; exact (less_ord _ _).1 h
theorem ordS_gt {a b : ByteArray} (h : Op.bytesLess a.toList b.toList = false) (h' : (!a.toList == b.toList) = true) : ordS a b = 1 := by
  rw [ByteArray.toList_eq, ByteArray.toList_eq] at h h'; exact (less_ord _ _).2.1 h (by simpa using h')
theorem ordS_eq {a b : ByteArray} (h' : (!a.toList == b.toList) = false) : ordS a b = 0 := by
  rw [ByteArray.toList_eq, ByteArray.toList_eq] at h'; exact (less_ord _ _).2.2 (by simpa using h')

set_option maxHeartbeats 400000 in
theorem cmpStr_any (a b : ByteArray) (w : World) :
    Calls Try.prog 113 #[.string a, .string b] w fun e w' => e = .returned (.int .i64 (ordS a b)) ∧ w = w' := by
  go_enter Try.func113, Try.ntmps113
  go_wp2
  all_goals go_ret
  · exact ⟨ret_i64 (by rw [ordS_lt ‹_›]), rfl⟩
  · exact ⟨ret_i64 (by rw [ordS_gt ‹_› ‹_›]), rfl⟩
  · exact ⟨ret_i64 (by rw [ordS_eq ‹_›]), rfl⟩

end Go.Proofs.Ytofmfainhflmmaa

/-
  CONTRACTS: how two values stand (the program's).
-/
namespace Go.Proofs.Ytofmfainhflmmaa
open Go.RowKit

theorem v1 {k n k' n' : Int} {s s' : ByteArray} (h : (ordI k k' != 0) = true) : ordI k k' = ordV k n s k' n' s' := by
  have h' : ¬ ordI k k' = 0 := by simpa using h
  unfold ordV; rw [if_neg h']
theorem v2 {k n k' n' : Int} {s s' : ByteArray} (h : (ordI k k' != 0) = false) (h2 : (ordI n n' != 0) = true) : ordI n n' = ordV k n s k' n' s' := by
  have h' : ordI k k' = 0 := by simpa using h
  have h2' : ¬ ordI n n' = 0 := by simpa using h2
  unfold ordV; rw [if_pos h', if_neg h2']
theorem v3 {k n k' n' : Int} {s s' : ByteArray} (h : (ordI k k' != 0) = false) (h2 : (ordI n n' != 0) = false) : ordS s s' = ordV k n s k' n' s' := by
  have h' : ordI k k' = 0 := by simpa using h
  have h2' : ordI n n' = 0 := by simpa using h2
  unfold ordV; rw [if_pos h', if_pos h2']

set_option maxHeartbeats 400000 in
theorem compare_any (k n : Int) (s : ByteArray) (k' n' : Int) (s' : ByteArray) (w : World) :
    Calls Try.prog 80 #[.agg #[.int .i64 k, .int .i64 n, .string s], .agg #[.int .i64 k', .int .i64 n', .string s']] w fun e w' => e = .returned (.int .i64 (ordV k n s k' n' s')) ∧ Below w.heap.size w w' := by
  go_enter Try.func80, Try.ntmps80
  go_wp2_with (first | (go_at_call 111; refine (cmpInt_any _ _ _).mono ?_; rintro e w' ⟨rfl, rfl⟩) | (go_at_call 112; refine (cmpI64_any _ _ _).mono ?_; rintro e w' ⟨rfl, rfl⟩) | (go_at_call 113; refine (cmpStr_any _ _ _).mono ?_; rintro e w' ⟨rfl, rfl⟩))
  all_goals go_ret
  all_goals refine ⟨ret_i64 ?_, ((Below.refl _ _).alloc (Nat.le_refl _) _).alloc (by simp) _⟩
  · exact v1 ‹_›
  · exact v2 ‹_› ‹_›
  · exact v3 ‹_› ‹_›

end Go.Proofs.Ytofmfainhflmmaa

/-
  CONTRACTS: how two values stand (the document's).
-/
namespace Go.Proofs.Ytofmfainhflmmaa
open Go.RowKit

theorem below_dn {B : Nat} {a w : World} (h : Below B a w) (n : Nat) : Below B a (w.drewN n) := ⟨h.os, h.tape, h.output, h.size, h.block⟩

/-- how two texts stand from a place on -/
def ordAt (s s' : ByteArray) (k : Nat) : Int := ordL (s.data.toList.drop k) (s'.data.toList.drop k)
theorem ordAt_zero (s s' : ByteArray) : ordAt s s' 0 = ordS s s' := by simp [ordAt, ordS]
theorem ordAt_lt {s s' : ByteArray} {k : Nat} (h : k < s.size) (h' : k < s'.size) (hc : (s[k].toNat : Int) < s'[k].toNat) : ordAt s s' k = -1 := by
  unfold ordAt; rw [drop_at s k h, drop_at s' k h']; unfold ordL; rw [if_pos (by omega)]
theorem ordAt_gt {s s' : ByteArray} {k : Nat} (h : k < s.size) (h' : k < s'.size) (hc : (s'[k].toNat : Int) < s[k].toNat) : ordAt s s' k = 1 := by
  unfold ordAt; rw [drop_at s k h, drop_at s' k h']; unfold ordL; rw [if_neg (by omega), if_pos (by omega)]
theorem ordAt_eq {s s' : ByteArray} {k : Nat} (h : k < s.size) (h' : k < s'.size) (h1 : (s[k].toNat : Int) = s'[k].toNat) : ordAt s s' k = ordAt s s' (k + 1) := by
  unfold ordAt; rw [drop_at s k h, drop_at s' k h']
  have : ordL (s[k] :: s.data.toList.drop (k + 1)) (s'[k] :: s'.data.toList.drop (k + 1)) = if s[k].toNat < s'[k].toNat then -1 else if s'[k].toNat < s[k].toNat then 1 else ordL (s.data.toList.drop (k + 1)) (s'.data.toList.drop (k + 1)) := rfl
  rw [this, if_neg (by omega), if_neg (by omega)]
theorem ordAt_end {s s' : ByteArray} {k : Nat} (h : k ≤ s.size) (h' : k ≤ s'.size) (he : k = s.size ∨ k = s'.size) :
    ordAt s s' k = if s.size < s'.size then -1 else if s'.size < s.size then 1 else 0 := by
  unfold ordAt
  rcases he with rfl | rfl
  · rw [drop_end s _ (Nat.le_refl _)]
    by_cases h2 : s.size < s'.size
    · rw [drop_at s' _ h2, if_pos h2]; rfl
    · rw [drop_end s' _ (by omega), if_neg h2, if_neg (by omega)]; rfl
  · rw [drop_end s' _ (Nat.le_refl _)]
    by_cases h2 : s'.size < s.size
    · rw [drop_at s _ h2, if_neg (by omega), if_pos h2]; rfl
    · rw [drop_end s _ (by omega), if_neg (by omega), if_neg h2]; rfl

theorem ord_a {k n k' n' : Int} {s s' : ByteArray} (h : k < k') : -1 = ordV k n s k' n' s' := by
  have e : ordI k k' = -1 := by unfold ordI; rw [if_pos h]
  unfold ordV; rw [if_neg (by omega), e]
theorem ord_b {k n k' n' : Int} {s s' : ByteArray} (h : k' < k) : 1 = ordV k n s k' n' s' := by
  have e : ordI k k' = 1 := by unfold ordI; rw [if_neg (by omega), if_pos h]
  unfold ordV; rw [if_neg (by omega), e]
theorem ord_c {k n n' : Int} {s s' : ByteArray} (h : n < n') : -1 = ordV k n s k n' s' := by
  have e : ordI n n' = -1 := by unfold ordI; rw [if_pos h]
  unfold ordV; rw [if_pos (ordI_zero.2 rfl), if_neg (by omega), e]
theorem ord_d {k n n' : Int} {s s' : ByteArray} (h : n' < n) : 1 = ordV k n s k n' s' := by
  have e : ordI n n' = 1 := by unfold ordI; rw [if_neg (by omega), if_pos h]
  unfold ordV; rw [if_pos (ordI_zero.2 rfl), if_neg (by omega), e]
theorem ord_e {k n : Int} {s s' : ByteArray} : ordV k n s k n s' = ordS s s' := by
  unfold ordV; rw [if_pos (ordI_zero.2 rfl), if_pos (ordI_zero.2 rfl)]

set_option maxHeartbeats 1000000 in
theorem refCompare_e (k n : Int) (s : ByteArray) (s' : ByteArray) (w : World) (hs : s.size ≤ maxLen) (hs' : s'.size ≤ maxLen) :
    Calls Try.prog 89 #[.agg #[.int .i64 k, .int .i64 n, .string s], .agg #[.int .i64 k, .int .i64 n, .string s']] w fun e w' => e = .returned (.int .i64 (ordS s s')) ∧ Below w.heap.size w w' := by
  unfold maxLen at hs hs'
  go_enter Try.func89, Try.ntmps89
  go_wp2
  go_loopw [5] (fun i wr => ∃ j : Nat, j ≤ s.size ∧ j ≤ s'.size ∧ i = .int .i64 j ∧ Hid (ordAt s s' j = ordS s s') ∧ Below w.heap.size w wr ∧ wr.heap.size = w.heap.size + 2 ∧ wr.cell? ⟨w.heap.size, 2, none⟩ = some (.string s) ∧ wr.cell? ⟨w.heap.size + 1, 2, none⟩ = some (.string s')) (fun i _ => s.size - (intOf i).toNat)
  case atStart => exact ⟨0, by omega, by omega, rfl, ordAt_zero s s', ((Below.refl _ _).alloc (Nat.le_refl _) _).alloc (by simp) _, by simp, by go_simp, by go_simp⟩
  case round =>
    obtain ⟨j, hj, hj', rfl, HJ, hB, hz, hc, hc'⟩ := hrel
    by_cases h1 : j < s.size
    · by_cases h2 : j < s'.size
      · by_cases h3 : (s[j].toNat : Int) < (s'[j].toNat : Int)
        · have HF : Hid (ordAt s s' j = -1) := ordAt_lt h1 h2 h3
          go_wp2
          go_quiet (fail)
          go_wp2
          go_ret
          exact ⟨ret_i64 (by rw [← HJ.out, HF.out]), by first | exact below_dn (below_dn hB _) _ | exact below_dn hB _⟩
        · by_cases h4 : (s'[j].toNat : Int) < (s[j].toNat : Int)
          · have HF : Hid (ordAt s s' j = 1) := ordAt_gt h1 h2 h4
            go_wp2
            go_quiet (fail)
            go_wp2
            go_quiet (fail)
            go_wp2
            go_ret
            exact ⟨ret_i64 (by rw [← HJ.out, HF.out]), by first | exact below_dn (below_dn hB _) _ | exact below_dn hB _⟩
          · have HF : Hid (ordAt s s' j = ordAt s s' (j + 1)) := ordAt_eq h1 h2 (by omega)
            go_wp2
            go_quiet (fail)
            go_wp2
            go_quiet (fail)
            go_wp2
            go_roundw
            case rel => exact ⟨j + 1, by omega, by omega, by go_num, by rw [← HJ.out, HF.out]; rfl, by first | exact below_dn (below_dn hB _) _ | exact below_dn hB _, by simpa using hz, by simpa using hc, by simpa using hc'⟩
            case measure => simp [intOf]; omega
      · have HF : Hid (ordAt s s' j = if s.size < s'.size then -1 else if s'.size < s.size then 1 else 0) := ordAt_end hj hj' (.inr (by omega))
        have h5 : ¬ (s.size : Int) < (s'.size : Int) := by omega
        have h6 : (s'.size : Int) < (s.size : Int) := by omega
        go_wp2
        go_ret
        exact ⟨ret_i64 (by rw [← HJ.out, HF.out, if_neg (by omega), if_pos (by omega)]), hB⟩
    · have HF : Hid (ordAt s s' j = if s.size < s'.size then -1 else if s'.size < s.size then 1 else 0) := ordAt_end hj hj' (.inl (by omega))
      by_cases h5 : (s.size : Int) < (s'.size : Int)
      · go_wp2
        go_ret
        exact ⟨ret_i64 (by rw [← HJ.out, HF.out, if_pos (by omega)]), hB⟩
      · have h6 : ¬ (s'.size : Int) < (s.size : Int) := by omega
        go_wp2
        go_ret
        exact ⟨ret_i64 (by rw [← HJ.out, HF.out, if_neg (by omega), if_neg (by omega)]), hB⟩

set_option maxHeartbeats 1000000 in
theorem refCompare_any (k n : Int) (s : ByteArray) (k' n' : Int) (s' : ByteArray) (w : World) (hs : s.size ≤ maxLen) (hs' : s'.size ≤ maxLen) :
    Calls Try.prog 89 #[.agg #[.int .i64 k, .int .i64 n, .string s], .agg #[.int .i64 k', .int .i64 n', .string s']] w fun e w' => e = .returned (.int .i64 (ordV k n s k' n' s')) ∧ Below w.heap.size w w' := by
  by_cases h1 : k < k'
  · go_enter Try.func89, Try.ntmps89
    go_wp2
    go_ret
    exact ⟨ret_i64 (ord_a h1), ((Below.refl _ _).alloc (Nat.le_refl _) _).alloc (by simp) _⟩
  · by_cases h2 : k' < k
    · go_enter Try.func89, Try.ntmps89
      go_wp2
      go_ret
      exact ⟨ret_i64 (ord_b h2), ((Below.refl _ _).alloc (Nat.le_refl _) _).alloc (by simp) _⟩
    · obtain rfl : k = k' := by omega
      by_cases h3 : n < n'
      · go_enter Try.func89, Try.ntmps89
        go_wp2
        go_ret
        exact ⟨ret_i64 (ord_c h3), ((Below.refl _ _).alloc (Nat.le_refl _) _).alloc (by simp) _⟩
      · by_cases h4 : n' < n
        · go_enter Try.func89, Try.ntmps89
          go_wp2
          go_ret
          exact ⟨ret_i64 (ord_d h4), ((Below.refl _ _).alloc (Nat.le_refl _) _).alloc (by simp) _⟩
        · obtain rfl : n = n' := by omega
          rw [ord_e]
          exact refCompare_e k n s s' w hs hs'

end Go.Proofs.Ytofmfainhflmmaa

/-
  PLAIN: the order of values is one order (under a name of its own, for the seat that holds OPure too).
-/
namespace Go.Proofs.Ytofmfainhflmmaa.VOrd
open Go.RowKit

structure IsOrd {α : Type} (o : α → α → Int) : Prop where
  range : ∀ a b, o a b = -1 ∨ o a b = 0 ∨ o a b = 1
  zero : ∀ a b, o a b = 0 ↔ a = b
  swap : ∀ a b, o b a = - o a b
  trans : ∀ a b c, o a b ≤ 0 → o b c ≤ 0 → o a c ≤ 0

def lexO {α β : Type} (o : α → α → Int) (p : β → β → Int) (x y : α × β) : Int := if o x.1 y.1 = 0 then p x.2 y.2 else o x.1 y.1

theorem IsOrd.lt {α : Type} {o : α → α → Int} (h : IsOrd o) {a b c : α} (h1 : o a b < 0) (h2 : o b c ≤ 0) : o a c < 0 := by
  have h3 := h.trans a b c (by omega) h2
  rcases Int.lt_or_le (o a c) 0 with h4 | h4
  · exact h4
  · have h5 : a = c := (h.zero a c).1 (by omega)
    subst h5
    have h6 := h.swap a b
    omega
theorem IsOrd.lt' {α : Type} {o : α → α → Int} (h : IsOrd o) {a b c : α} (h1 : o a b ≤ 0) (h2 : o b c < 0) : o a c < 0 := by
  have h3 := h.trans a b c h1 (by omega)
  rcases Int.lt_or_le (o a c) 0 with h4 | h4
  · exact h4
  · have h5 : a = c := (h.zero a c).1 (by omega)
    subst h5
    have h6 := h.swap a b
    omega

theorem ordI_is : IsOrd ordI where
  range := ordI_range
  zero := fun _ _ => ordI_zero
  swap := fun a b => by
    unfold ordI
    by_cases h1 : a < b
    · rw [if_neg (by omega), if_pos h1, if_pos h1]; rfl
    · by_cases h2 : b < a
      · rw [if_pos h2, if_neg h1, if_pos h2]
      · rw [if_neg h2, if_neg h1, if_neg h1, if_neg h2]; rfl
  trans := fun a b c h1 h2 => by
    unfold ordI at *
    by_cases k1 : a < c
    · rw [if_pos k1]; omega
    · rw [if_neg k1]
      by_cases k2 : c < a
      · exfalso
        by_cases k3 : b < a
        · rw [if_neg (by omega), if_pos k3] at h1; omega
        · by_cases k4 : c < b
          · rw [if_neg (by omega), if_pos k4] at h2; omega
          · omega
      · rw [if_neg k2]; omega

theorem lex_is {α β : Type} {o : α → α → Int} {p : β → β → Int} (ho : IsOrd o) (hp : IsOrd p) : IsOrd (lexO o p) where
  range := fun a b => by
    unfold lexO; split
    · exact hp.range _ _
    · exact ho.range _ _
  zero := fun a b => by
    unfold lexO; split
    · rename_i h
      rw [hp.zero]
      have := (ho.zero _ _).1 h
      constructor
      · intro h2; exact Prod.ext this h2
      · intro h2; rw [h2]
    · rename_i h
      constructor
      · intro h2; exact absurd h2 h
      · intro h2; rw [h2] at h; exact absurd ((ho.zero _ _).2 rfl) h
  swap := fun a b => by
    unfold lexO
    have h := ho.swap a.1 b.1
    by_cases k : o a.1 b.1 = 0
    · rw [if_pos (by omega), if_pos k]; exact hp.swap _ _
    · rw [if_neg (by omega), if_neg k]; exact h
  trans := fun a b c h1 h2 => by
    unfold lexO at *
    have r1 := ho.range a.1 b.1
    have r2 := ho.range b.1 c.1
    by_cases k1 : o a.1 b.1 = 0
    · have e1 := (ho.zero _ _).1 k1
      rw [if_pos k1] at h1
      by_cases k2 : o b.1 c.1 = 0
      · rw [if_pos k2] at h2
        rw [e1, if_pos k2]; exact hp.trans _ _ _ h1 h2
      · rw [if_neg k2] at h2
        rw [e1, if_neg k2]; exact h2
    · rw [if_neg k1] at h1
      have h3 : o b.1 c.1 ≤ 0 := by
        by_cases k2 : o b.1 c.1 = 0
        · omega
        · rw [if_neg k2] at h2; exact h2
      have h4 := ho.lt (a := a.1) (b := b.1) (c := c.1) (by omega) h3
      rw [if_neg (by omega)]; omega

theorem ordL_cons (x y : UInt8) (l r : List UInt8) : ordL (x :: l) (y :: r) = lexO (fun a b : UInt8 => ordI a.toNat b.toNat) ordL (x, l) (y, r) := by
  unfold lexO ordI
  show (if x.toNat < y.toNat then -1 else if y.toNat < x.toNat then 1 else ordL l r) = _
  by_cases h1 : x.toNat < y.toNat
  · have h1' : (x.toNat : Int) < y.toNat := by omega
    simp [h1]
  · by_cases h2 : y.toNat < x.toNat
    · simp [h1, h2]
    · simp [h1, h2]

theorem ordB_is : IsOrd (fun a b : UInt8 => ordI a.toNat b.toNat) where
  range := fun _ _ => ordI_range _ _
  zero := fun a b => by
    rw [ordI_zero]
    constructor
    · intro h; exact UInt8.toNat_inj.1 (by omega)
    · intro h; rw [h]
  swap := fun a b => ordI_is.swap _ _
  trans := fun a b c => ordI_is.trans _ _ _

theorem ordL_zero : ∀ (l r : List UInt8), ordL l r = 0 ↔ l = r
  | [], [] => by simp [ordL]
  | [], _ :: _ => by simp [ordL]
  | _ :: _, [] => by simp [ordL]
  | x :: l, y :: r => by
    rw [ordL_cons]
    unfold lexO
    have ih := ordL_zero l r
    by_cases h : ordI (x.toNat : Int) y.toNat = 0
    · simp only [h, if_true]
      have e := (ordB_is.zero x y).1 h
      rw [ih, e]; simp
    · simp only [h, if_false]
      constructor
      · intro h2; exact h2.elim
      · intro h2; injection h2 with h3 _; rw [h3] at h; exact h (ordI_zero.2 rfl)
theorem ordL_swap : ∀ (l r : List UInt8), ordL r l = - ordL l r
  | [], [] => by simp [ordL]
  | [], _ :: _ => by simp [ordL]
  | _ :: _, [] => by simp [ordL]
  | x :: l, y :: r => by
    rw [ordL_cons, ordL_cons]
    unfold lexO
    have ih := ordL_swap l r
    have h : ordI (y.toNat : Int) x.toNat = - ordI (x.toNat : Int) y.toNat := ordB_is.swap x y
    by_cases k : ordI (x.toNat : Int) y.toNat = 0
    · simp only [k, if_true]
      rw [k] at h
      simp only [h, Int.neg_zero, if_true]; exact ih
    · simp only [k, if_false]
      rw [if_neg (by omega)]; exact h
theorem ordL_trans : ∀ (l r t : List UInt8), ordL l r ≤ 0 → ordL r t ≤ 0 → ordL l t ≤ 0
  | [], _, [] => by simp [ordL]
  | [], _, _ :: _ => by simp [ordL]
  | _ :: _, [], _ => by simp [ordL]
  | _ :: _, _ :: _, [] => by simp [ordL]
  | x :: l, y :: r, z :: t => by
    rw [ordL_cons, ordL_cons, ordL_cons]
    unfold lexO
    simp only
    intro h1 h2
    by_cases k1 : ordI (x.toNat : Int) y.toNat = 0
    · have e1 := (ordB_is.zero x y).1 k1
      rw [if_pos k1] at h1
      subst e1
      by_cases k2 : ordI (x.toNat : Int) z.toNat = 0
      · rw [if_pos k2] at h2
        rw [if_pos k2]; exact ordL_trans l r t h1 h2
      · rw [if_neg k2] at h2
        rw [if_neg k2]; exact h2
    · rw [if_neg k1] at h1
      have h3 : ordI (y.toNat : Int) z.toNat ≤ 0 := by
        by_cases k2 : ordI (y.toNat : Int) z.toNat = 0
        · omega
        · rw [if_neg k2] at h2; exact h2
      have h4 := ordI_is.lt (a := (x.toNat : Int)) (b := (y.toNat : Int)) (c := (z.toNat : Int)) (by omega) h3
      rw [if_neg (by omega)]; omega
theorem ordL_is : IsOrd ordL := ⟨ordL_range, ordL_zero, ordL_swap, ordL_trans⟩
theorem ordS_is : IsOrd ordS where
  range := fun _ _ => ordL_range _ _
  zero := fun a b => by
    unfold ordS; rw [ordL_zero]
    constructor
    · intro h; exact ByteArray.ext (Array.toList_inj.1 h)
    · intro h; rw [h]
  swap := fun _ _ => ordL_swap _ _
  trans := fun _ _ _ => ordL_trans _ _ _

def ordT (a b : Int × (Int × ByteArray)) : Int := ordV a.1 a.2.1 a.2.2 b.1 b.2.1 b.2.2
theorem ordT_is : IsOrd ordT := lex_is ordI_is (lex_is ordI_is ordS_is)

end Go.Proofs.Ytofmfainhflmmaa.VOrd
