/-
  PLAIN FACTS: what is sorted, each once, is one list.
-/
import Derived.Test.YtkoknogefmfmnaaVSort
namespace Go.Proofs.Ytkoknogefmfmnaa
open Go.Shelf

section
variable {α : Type} {o : α → α → Int}
/-- strictly rising -/
def Ups (o : α → α → Int) (l : List α) : Prop := l.Pairwise fun x y => o x y < 0
/-- two lists that rise strictly, and hold the same, are one -/
theorem ups_uniq (h : VOrd.IsOrd o) : ∀ (a b : List α), Ups o a → Ups o b → (∀ x, x ∈ a ↔ x ∈ b) → a = b
  | [], [], _, _, _ => rfl
  | [], y :: _, _, _, hm => absurd ((hm y).2 (by simp)) (by simp)
  | x :: _, [], _, _, hm => absurd ((hm x).1 (by simp)) (by simp)
  | x :: a, y :: b, ha, hb, hm => by
    obtain ⟨hx, ha'⟩ := List.pairwise_cons.1 ha
    obtain ⟨hy, hb'⟩ := List.pairwise_cons.1 hb
    have e : x = y := by
      rcases List.mem_cons.1 ((hm x).1 (by simp)) with e | e
      · exact e
      · rcases List.mem_cons.1 ((hm y).2 (by simp)) with e' | e'
        · exact e'.symm
        · have h1 := hy x e
          have h2 := hx y e'
          have h3 := h.swap x y
          omega
    subst e
    have hself : o x x = 0 := (h.zero x x).2 rfl
    have he : a = b := ups_uniq h a b ha' hb' fun z => by
      constructor
      · intro hz
        rcases List.mem_cons.1 ((hm z).1 (by simp [hz])) with e | e
        · subst e
          have h1 := hx z hz
          omega
        · exact e
      · intro hz
        rcases List.mem_cons.1 ((hm z).2 (by simp [hz])) with e | e
        · subst e
          have h1 := hy z hz
          omega
        · exact e
    rw [he]

/-- each once, of what stands side by side -/
def compG (o : α → α → Int) : List α → List α
  | [] => []
  | [x] => [x]
  | x :: y :: r => if o x y = 0 then compG o (y :: r) else x :: compG o (y :: r)
theorem compG_mem (h : VOrd.IsOrd o) : ∀ (l : List α) (z : α), z ∈ compG o l ↔ z ∈ l
  | [], z => by simp [compG]
  | [x], z => by simp [compG]
  | x :: y :: r, z => by
    have ih := compG_mem h (y :: r) z
    unfold compG
    split
    · rename_i h0
      have e := (h.zero x y).1 h0
      rw [ih, e]; simp
    · rw [List.mem_cons, ih]; simp
theorem compG_ups (h : VOrd.IsOrd o) : ∀ (l : List α), l.Pairwise (fun x y => o x y ≤ 0) → Ups o (compG o l)
  | [], _ => List.Pairwise.nil
  | [x], _ => by show List.Pairwise _ [x]; simp
  | x :: y :: r, hl => by
    obtain ⟨hx, hr⟩ := List.pairwise_cons.1 hl
    have ih := compG_ups h (y :: r) hr
    unfold compG
    split
    · exact ih
    · rename_i h0
      refine List.pairwise_cons.2 ⟨fun z hz => ?_, ih⟩
      rw [compG_mem h] at hz
      have h1 := hx y (by simp)
      rcases List.mem_cons.1 hz with e | e
      · rw [e]; omega
      · have h2 := (List.pairwise_cons.1 hr).1 z e
        exact h.lt (by omega) h2

/-- rising, by the sort -/
def riseG (o : α → α → Int) (l : List α) : List α := l.mergeSort fun x y => !(ltOf o) y x
theorem riseG_up (h : VOrd.IsOrd o) (l : List α) : (riseG o l).Pairwise (fun x y => o x y ≤ 0) := by
  have hle : ∀ x y : α, (!(ltOf o) y x) = true ↔ o x y ≤ 0 := fun x y => by
    unfold ltOf
    have := h.swap x y
    simp only [Bool.not_eq_true', decide_eq_false_iff_not]
    omega
  have hp := List.pairwise_mergeSort (le := fun x y => !(ltOf o) y x)
    (fun a b c h1 h2 => (hle a c).2 (h.trans a b c ((hle a b).1 h1) ((hle b c).1 h2)))
    (fun a b => by
      rw [Bool.or_eq_true, hle, hle]
      have := h.swap a b
      omega) l
  exact hp.imp fun {a b} h1 => (hle a b).1 h1
theorem riseG_mem (l : List α) (z : α) : z ∈ riseG o l ↔ z ∈ l := List.mem_mergeSort
theorem riseG_len (l : List α) : (riseG o l).length = l.length := List.length_mergeSort l

/-- where it is put -/
def putAt (o : α → α → Int) (x : α) : List α → Nat
  | [] => 0
  | y :: r => if o y x < 0 then putAt o x r + 1 else 0
/-- put in its place, unless it is there -/
def putG (o : α → α → Int) (l : List α) (x : α) : List α :=
  if (l[putAt o x l]?).any (fun y => decide (o y x = 0)) then l else l.take (putAt o x l) ++ x :: l.drop (putAt o x l)
theorem putAt_le (x : α) : ∀ l : List α, putAt o x l ≤ l.length
  | [] => Nat.le_refl _
  | y :: r => by
    have := putAt_le x r
    unfold putAt
    split
    · simp; omega
    · simp
theorem putG_cons (x y : α) (r : List α) : putG o (y :: r) x = if o y x < 0 then y :: putG o r x else if o y x = 0 then y :: r else x :: y :: r := by
  by_cases h1 : o y x < 0
  · rw [if_pos h1]
    have e : putAt o x (y :: r) = putAt o x r + 1 := by rw [putAt, if_pos h1]
    unfold putG
    rw [e, List.getElem?_cons_succ]
    split
    · rfl
    · rfl
  · rw [if_neg h1]
    have e : putAt o x (y :: r) = 0 := by rw [putAt, if_neg h1]
    unfold putG
    rw [e]
    by_cases h2 : o y x = 0
    · simp [h2]
    · simp [h2]
theorem putG_nil (x : α) : putG o [] x = [x] := by
  unfold putG putAt; simp
theorem putG_mem (h : VOrd.IsOrd o) (x : α) : ∀ (l : List α) (z : α), z ∈ putG o l x ↔ z = x ∨ z ∈ l
  | [], z => by rw [putG_nil]; simp
  | y :: r, z => by
    have ih := putG_mem h x r z
    rw [putG_cons]
    split
    · rw [List.mem_cons, ih, List.mem_cons]
      constructor
      · rintro (a | a | a)
        · exact .inr (.inl a)
        · exact .inl a
        · exact .inr (.inr a)
      · rintro (a | a | a)
        · exact .inr (.inl a)
        · exact .inl a
        · exact .inr (.inr a)
    · split
      · rename_i h2
        have e := (h.zero y x).1 h2
        subst e
        constructor
        · intro a; exact .inr a
        · rintro (a | a)
          · rw [a]; simp
          · exact a
      · rw [List.mem_cons]
theorem putG_ups (h : VOrd.IsOrd o) (x : α) : ∀ (l : List α), Ups o l → Ups o (putG o l x)
  | [], _ => by rw [putG_nil]; show List.Pairwise _ [x]; simp
  | y :: r, hl => by
    obtain ⟨hy, hr⟩ := List.pairwise_cons.1 hl
    have ih := putG_ups h x r hr
    rw [putG_cons]
    split
    · rename_i h1
      refine List.pairwise_cons.2 ⟨fun z hz => ?_, ih⟩
      rcases (putG_mem h x r z).1 hz with e | e
      · rw [e]; exact h1
      · exact hy z e
    · split
      · exact hl
      · rename_i h1 h2
        have h3 := h.swap y x
        refine List.pairwise_cons.2 ⟨fun z hz => ?_, hl⟩
        rcases List.mem_cons.1 hz with e | e
        · rw [e]; omega
        · exact h.lt (b := y) (by omega) (by have := hy z e; omega)
/-- the document's: each put in its place -/
def putsG (o : α → α → Int) (l : List α) : List α := l.foldl (putG o) []
theorem putsG_from (h : VOrd.IsOrd o) : ∀ (l a : List α), Ups o a → Ups o (l.foldl (putG o) a) ∧ ∀ z, z ∈ l.foldl (putG o) a ↔ z ∈ a ∨ z ∈ l
  | [], a, ha => ⟨ha, fun z => by simp⟩
  | x :: l, a, ha => by
    obtain ⟨h1, h2⟩ := putsG_from h l (putG o a x) (putG_ups h x a ha)
    refine ⟨h1, fun z => ?_⟩
    rw [List.foldl_cons, h2, putG_mem h, List.mem_cons]
    constructor
    · rintro ((a | a) | a)
      · exact .inr (.inl a)
      · exact .inl a
      · exact .inr (.inr a)
    · rintro (a | a | a)
      · exact .inl (.inr a)
      · exact .inl (.inl a)
      · exact .inr a
/-- THE TWO WAYS OF SORTING, EACH ONCE, ARE ONE. -/
theorem sorted_once (h : VOrd.IsOrd o) (l : List α) : compG o (riseG o l) = putsG o l := by
  obtain ⟨h1, h2⟩ := putsG_from h l [] List.Pairwise.nil
  refine ups_uniq h _ _ (compG_ups h _ (riseG_up h l)) h1 fun z => ?_
  rw [compG_mem h, riseG_mem]
  exact ((h2 z).trans (by simp)).symm
end
end Go.Proofs.Ytkoknogefmfmnaa
