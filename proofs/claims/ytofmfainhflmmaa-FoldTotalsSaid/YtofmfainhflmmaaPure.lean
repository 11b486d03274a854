/-
  PLAIN FUNCTIONS (no program): which bytes are letters, digits, of a word; which values may be; how two stand.
-/
import Derived.Below
import Derived.Laws.Strings
namespace Go.Proofs.Ytofmfainhflmmaa
open Go.RowKit

def lowI (c : Int) : Bool := decide (97 ≤ c ∧ c ≤ 122)
def digI (c : Int) : Bool := decide (48 ≤ c ∧ c ≤ 57)
def inwI (c : Int) : Bool := lowI c || digI c || (c == 46) || (c == 95) || (c == 45) || (c == 47)

/-- may bytes be a word? -/
def wordL : List UInt8 → Bool
  | [] => false
  | c :: r => decide (r.length < 64) && lowI c.toNat && r.all (fun x => inwI x.toNat)
def wordB (s : ByteArray) : Bool := wordL s.data.toList

/-- may a value be? -/
def mayB (k n : Int) (s : ByteArray) : Bool :=
  if k = 1 ∨ k = 6 then decide (s.size = 0)
  else if k = 2 then decide (s.size = 0) && decide (n = 0 ∨ n = 1)
  else if k = 3 ∨ k = 4 then decide (n = 0) && decide (s.size ≤ 1000)
  else if k = 5 then decide (s.size = 0) && decide (0 ≤ n ∧ n < 9007199254740992)
  else if k = 7 then decide (n = 0) && wordB s
  else false

/-- a digit of sixteen, as a byte -/
def hexD (n : Nat) : UInt8 := if n < 10 then UInt8.ofNat (48 + n) else UInt8.ofNat (87 + n)
/-- a byte in two digits -/
def hexL (c : UInt8) : List UInt8 := [hexD (c.toNat / 16), hexD (c.toNat % 16)]
/-- does a byte stand as itself? -/
def plainB (c : Int) : Bool := decide (32 ≤ c ∧ c ≤ 126 ∧ c ≠ 34 ∧ c ≠ 92)
/-- a byte as it stands in a text's text -/
def escL (c : UInt8) : List UInt8 := if plainB c.toNat = true then [c] else 92 :: hexL c

/-- how two numbers stand -/
def ordI (a b : Int) : Int := if a < b then -1 else if b < a then 1 else 0
/-- how two texts stand, byte by byte -/
def ordL : List UInt8 → List UInt8 → Int
  | [], [] => 0
  | [], _ :: _ => -1
  | _ :: _, [] => 1
  | x :: l, y :: r => if x.toNat < y.toNat then -1 else if y.toNat < x.toNat then 1 else ordL l r
def ordS (a b : ByteArray) : Int := ordL a.data.toList b.data.toList
/-- how two values stand -/
def ordV (k n : Int) (s : ByteArray) (k' n' : Int) (s' : ByteArray) : Int :=
  if ordI k k' = 0 then (if ordI n n' = 0 then ordS s s' else ordI n n') else ordI k k'

theorem drop_at (s : ByteArray) (k : Nat) (h : k < s.size) : s.data.toList.drop k = s[k] :: s.data.toList.drop (k + 1) := by
  rw [List.drop_eq_getElem_cons (by simpa using h)]; rfl
theorem drop_end (s : ByteArray) (k : Nat) (h : s.size ≤ k) : s.data.toList.drop k = [] := by
  rw [List.drop_eq_nil_iff]; simpa using h

theorem u8_eq {x y : UInt8} (h1 : ¬ x.toNat < y.toNat) (h2 : ¬ y.toNat < x.toNat) : x = y := UInt8.toNat_inj.1 (by omega)

theorem less_ord : ∀ (l r : List UInt8), (Op.bytesLess l r = true → ordL l r = -1) ∧ (Op.bytesLess l r = false → (l == r) = false → ordL l r = 1) ∧ (l = r → ordL l r = 0)
  | [], [] => by simp [Op.bytesLess, ordL]
  | [], _ :: _ => by simp [Op.bytesLess, ordL]
  | _ :: _, [] => by simp [Op.bytesLess, ordL]
  | x :: l, y :: r => by
    have ih := less_ord l r
    simp only [Op.bytesLess, ordL]
    by_cases h1 : x.toNat < y.toNat
    · have h1' : x < y := UInt8.lt_iff_toNat_lt.2 h1
      simp only [h1, h1', if_true, decide_true, Bool.true_or]
      refine ⟨fun _ => by simp, fun h => by simp at h, fun h => ?_⟩
      cases h; omega
    · have h1' : ¬ x < y := fun h => h1 (UInt8.lt_iff_toNat_lt.1 h)
      by_cases h2 : y.toNat < x.toNat
      · have hne : (x == y) = false := by
          rw [beq_eq_false_iff_ne]; intro e; subst e; omega
        simp only [h1, h1', h2, hne, if_true, if_false, decide_false, Bool.false_or, Bool.false_and]
        refine ⟨fun h => by simp at h, fun _ _ => by simp, fun h => ?_⟩
        cases h; omega
      · obtain rfl := u8_eq h1 h2
        simp only [h1, h1', if_false, decide_false, Bool.false_or, beq_self_eq_true, Bool.true_and]
        refine ⟨ih.1, fun h h' => ih.2.1 h ?_, fun h => ih.2.2 (by simpa using h)⟩
        simpa using h'

theorem ord_self (l : List UInt8) : ordL l l = 0 := (less_ord l l).2.2 rfl

theorem ordL_range : ∀ (l r : List UInt8), ordL l r = -1 ∨ ordL l r = 0 ∨ ordL l r = 1
  | [], [] => by simp [ordL]
  | [], _ :: _ => by simp [ordL]
  | _ :: _, [] => by simp [ordL]
  | x :: l, y :: r => by
    have := ordL_range l r
    simp only [ordL]
    split
    · exact .inl rfl
    · split
      · exact .inr (.inr rfl)
      · exact this

theorem ordI_range (a b : Int) : ordI a b = -1 ∨ ordI a b = 0 ∨ ordI a b = 1 := by
  unfold ordI; split
  · exact .inl rfl
  · split
    · exact .inr (.inr rfl)
    · exact .inr (.inl rfl)
theorem ordI_zero {a b : Int} : ordI a b = 0 ↔ a = b := by
  unfold ordI; split
  · constructor <;> intro h <;> first | omega | (subst h; omega)
  · split
    · constructor <;> intro h <;> first | omega | (subst h; omega)
    · constructor <;> intro h <;> omega

end Go.Proofs.Ytofmfainhflmmaa
