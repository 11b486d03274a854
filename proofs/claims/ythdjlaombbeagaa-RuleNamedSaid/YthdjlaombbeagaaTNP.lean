/-
  PLAIN FACTS: which texts are names, said in two ways.
-/
import Derived.Test.YthdjlaombbeagaaPure
import Derived.Lib.Bytealg
import Derived.Lib.IndexLaws
namespace Go.Proofs.Ythdjlaombbeagaa
open Go.RowKit

def digC (c : UInt8) : Bool := decide (48 ≤ (c.toNat : Int) ∧ (c.toNat : Int) ≤ 57)
def lowC (c : UInt8) : Bool := decide (97 ≤ (c.toNat : Int) ∧ (c.toNat : Int) ≤ 122)
def sgs : List UInt8 := [63, 95, 43, 45, 42, 47, 60, 62, 61, 33, 46, 37, 38]
def sgl : List UInt8 := [43, 45, 33]
def clsC (c : UInt8) : Bool := lowC c || (digC c || sgs.contains c)
/-- with how many bytes of the class a text begins -/
def beg (l : List UInt8) : Nat := (l.takeWhile clsC).length
theorem beg_le (l : List UInt8) : beg l ≤ l.length := (List.takeWhile_prefix clsC).length_le
theorem beg_all (l : List UInt8) : beg l = l.length ↔ ∀ (j : Nat) c, l[j]? = some c → clsC c = true := by
  induction l with
  | nil => simp [beg]
  | cons a r ih =>
    by_cases h : clsC a = true
    · have e : beg (a :: r) = beg r + 1 := by unfold beg; rw [List.takeWhile_cons_of_pos h]; rfl
      rw [e, List.length_cons]
      constructor
      · intro h1 j c hj
        cases j with
        | zero => simp at hj; rw [← hj]; exact h
        | succ j => exact ih.1 (by omega) j c (by simpa using hj)
      · intro h1
        have := ih.2 (fun j c hj => h1 (j + 1) c (by simpa using hj))
        omega
    · have e : beg (a :: r) = 0 := by unfold beg; rw [List.takeWhile_cons_of_neg h]; rfl
      rw [e, List.length_cons]
      constructor
      · intro h1; omega
      · intro h1; exact absurd (h1 0 a rfl) h
theorem beg_step (l : List UInt8) (k : Nat) (c : UInt8) (hk : ∀ (j : Nat) d, j < k → l[j]? = some d → clsC d = true) (hc : l[k]? = some c) (hn : clsC c = false) : beg l = k := by
  induction l generalizing k with
  | nil => simp at hc
  | cons a r ih =>
    cases k with
    | zero =>
      simp at hc
      subst hc
      unfold beg; rw [List.takeWhile_cons_of_neg (by simp [hn])]; rfl
    | succ k =>
      have h0 : clsC a = true := hk 0 a (by omega) rfl
      have e : beg (a :: r) = beg r + 1 := by unfold beg; rw [List.takeWhile_cons_of_pos h0]; rfl
      rw [e, ih k (fun j d hj hd => hk (j + 1) d (by omega) (by simpa using hd)) (by simpa using hc)]
/-- does a sign stand ahead? -/
def ledB (l : List UInt8) : Bool := sgl.contains (l.headD 0)
/-- what stands behind a sign -/
def tlB (l : List UInt8) : List UInt8 := if ledB l then l.drop 1 else l
def tru : List UInt8 := [116, 114, 117, 101]
def fls : List UInt8 := [102, 97, 108, 115, 101]
/-- the program's way -/
def namP (l : List UInt8) : Bool := decide (l ≠ [] ∧ l.length ≤ 64 ∧ beg l = l.length ∧ l ≠ tru ∧ l ≠ fls) && ((tlB l).isEmpty || !digC ((tlB l).headD 0))
/-- may a byte stand there? -/
def atB (l : List UInt8) (i : Nat) (c : UInt8) : Bool := clsC c && !(digC c && (decide (i = 0) || (decide (i = 1) && ledB l)))
/-- the document's way -/
def namR (l : List UInt8) : Bool := decide (l ≠ [] ∧ l.length ≤ 64 ∧ l ≠ tru ∧ l ≠ fls) && (List.range l.length).all fun i => atB l i (l.getD i 0)
theorem namR_all (l : List UInt8) : ((List.range l.length).all fun i => atB l i (l.getD i 0)) = true ↔ ∀ (i : Nat) c, l[i]? = some c → atB l i c = true := by
  rw [List.all_eq_true]
  constructor
  · intro h i c hc
    obtain ⟨hi, e⟩ := List.getElem?_eq_some_iff.1 hc
    have := h i (List.mem_range.2 hi)
    rw [List.getD, hc] at this
    exact this
  · intro h i hi
    have hi' := List.mem_range.1 hi
    have := h i l[i] (List.getElem?_eq_getElem hi')
    rw [List.getD, List.getElem?_eq_getElem hi']
    exact this
theorem led_dig {c : UInt8} (h : sgl.contains c = true) : digC c = false := by
  have h1 : c ∈ sgl := by simpa using h
  rcases List.mem_cons.1 h1 with rfl | h1
  · rfl
  · rcases List.mem_cons.1 h1 with rfl | h1
    · rfl
    · rcases List.mem_cons.1 h1 with rfl | h1
      · rfl
      · cases h1
theorem nam_one (l : List UInt8) : namP l = namR l := by
  rw [Bool.eq_iff_iff]
  unfold namP namR
  rw [Bool.and_eq_true, Bool.and_eq_true, decide_eq_true_eq, decide_eq_true_eq, namR_all, beg_all]
  have key : ∀ (hl : l ≠ []), (((tlB l).isEmpty || !digC ((tlB l).headD 0)) = true ↔ ∀ (i : Nat) c, l[i]? = some c → (digC c && (decide (i = 0) || (decide (i = 1) && ledB l))) = false) := by
    intro hl
    match l, hl with
    | a :: r, _ =>
      by_cases hs : sgl.contains a = true
      · have e1 : ledB (a :: r) = true := hs
        have e2 : tlB (a :: r) = r := by unfold tlB; rw [e1]; rfl
        rw [e2, e1]
        constructor
        · intro h i c hc
          match i, hc with
          | 0, hc =>
            simp at hc
            subst hc
            rw [led_dig hs]; rfl
          | 1, hc =>
            match r, hc, h with
            | b :: r', hc, h =>
              simp at hc
              subst hc
              simpa using h
          | i + 2, hc => simp
        · intro h
          match r, h with
          | [], _ => rfl
          | b :: r', h =>
            have := h 1 b rfl
            simpa using this
      · have e1 : ledB (a :: r) = false := by rw [← Bool.not_eq_true]; exact hs
        have e2 : tlB (a :: r) = a :: r := by unfold tlB; rw [e1]; rfl
        rw [e2, e1]
        constructor
        · intro h i c hc
          match i, hc with
          | 0, hc =>
            simp at hc
            subst hc
            simpa using h
          | i + 1, hc => simp
        · intro h
          have := h 0 a rfl
          simpa using this
  constructor
  · rintro ⟨⟨h1, h2, h3, h4, h5⟩, h6⟩
    refine ⟨⟨h1, h2, h4, h5⟩, fun i c hc => ?_⟩
    unfold atB
    rw [h3 i c hc, (key h1).1 h6 i c hc]; rfl
  · rintro ⟨⟨h1, h2, h4, h5⟩, h6⟩
    have h7 : ∀ (i : Nat) c, l[i]? = some c → clsC c = true ∧ (digC c && (decide (i = 0) || (decide (i = 1) && ledB l))) = false := fun i c hc => by
      have := h6 i c hc
      unfold atB at this
      rw [Bool.and_eq_true, Bool.not_eq_true'] at this
      exact this
    exact ⟨⟨h1, h2, fun i c hc => (h7 i c hc).1, h4, h5⟩, (key h1).2 fun i c hc => (h7 i c hc).2⟩
theorem idx_has (l : List UInt8) (c : UInt8) : (∃ k : Nat, Lib.indexByte l c = (k : Int)) ∧ l.contains c = true ∨ Lib.indexByte l c = -1 ∧ l.contains c = false := by
  have h := Lib.indexByte_ge l c
  rcases (by omega : Lib.indexByte l c = -1 ∨ 0 ≤ Lib.indexByte l c) with e | e
  · refine .inr ⟨e, ?_⟩
    rw [← Bool.not_eq_true]
    intro hc
    have hm : c ∈ l := by simpa using hc
    obtain ⟨k, hk, rfl⟩ := List.mem_iff_getElem.1 hm
    exact Lib.indexByte_none e k (List.getElem?_eq_getElem hk)
  · obtain ⟨k, hk⟩ := Int.eq_ofNat_of_zero_le e
    refine .inl ⟨⟨k, hk⟩, ?_⟩
    have := (Lib.indexByte_some hk).1
    obtain ⟨hk', e'⟩ := List.getElem?_eq_some_iff.1 this
    have hm : c ∈ l := by rw [← e']; exact List.getElem_mem hk'
    simpa using hm
end Go.Proofs.Ythdjlaombbeagaa
