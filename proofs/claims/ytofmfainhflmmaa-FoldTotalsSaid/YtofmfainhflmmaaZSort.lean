/-
  PLAIN FACTS: what is sorted, each once, is one list; what Compact keeps.
-/
import Derived.Test.YtofmfainhflmmaaVOrd
import Derived.Lib.SlicesCompact
namespace Go.Proofs.Ytofmfainhflmmaa
open Go.Lib (keeps compactUpTo CompInv keeps_pos keeps_neg keeps_lt_one compactUpTo_all compactUpTo_succ range_map_get)

section
variable {α : Type} {o : α → α → Int}
/-- strictly rising -/
def Ups (o : α → α → Int) (l : List α) : Prop := l.Pairwise fun x y => o x y < 0
/-- two lists that rise strictly, and hold the same, are one -/
theorem ups_uniq (h : VOrd.IsOrd o) : ∀ (a b : List α), Ups o a → Ups o b → (∀ x, x ∈ a ↔ x ∈ b) → a = b
  | [], [], _, _, _ => rfl
  | [], y :: _, _, _, hm => absurd ((hm y).2 (by simp)) (by simp)
  | x :: _, [], _, _, hm => absurd ((hm x).1 (by simp)) (by simp)
  | x :: a, y :: b, ha, hb, hm => by
    obtain ⟨hx, ha'⟩ := List.pairwise_cons.1 ha
    obtain ⟨hy, hb'⟩ := List.pairwise_cons.1 hb
    have e : x = y := by
      rcases List.mem_cons.1 ((hm x).1 (by simp)) with e | e
      · exact e
      · rcases List.mem_cons.1 ((hm y).2 (by simp)) with e' | e'
        · exact e'.symm
        · have h1 := hy x e
          have h2 := hx y e'
          have h3 := h.swap x y
          omega
    subst e
    have hself : o x x = 0 := (h.zero x x).2 rfl
    have he : a = b := ups_uniq h a b ha' hb' fun z => by
      constructor
      · intro hz
        rcases List.mem_cons.1 ((hm z).1 (by simp [hz])) with e | e
        · subst e
          have h1 := hx z hz
          omega
        · exact e
      · intro hz
        rcases List.mem_cons.1 ((hm z).2 (by simp [hz])) with e | e
        · subst e
          have h1 := hy z hz
          omega
        · exact e
    rw [he]

/-- each once, of what stands side by side -/
def compG (o : α → α → Int) : List α → List α
  | [] => []
  | [x] => [x]
  | x :: y :: r => if o x y = 0 then compG o (y :: r) else x :: compG o (y :: r)
theorem compG_mem (h : VOrd.IsOrd o) : ∀ (l : List α) (z : α), z ∈ compG o l ↔ z ∈ l
  | [], z => by simp [compG]
  | [x], z => by simp [compG]
  | x :: y :: r, z => by
    have ih := compG_mem h (y :: r) z
    unfold compG
    split
    · rename_i h0
      have e := (h.zero x y).1 h0
      rw [ih, e]; simp
    · rw [List.mem_cons, ih]; simp
theorem compG_ups (h : VOrd.IsOrd o) : ∀ (l : List α), l.Pairwise (fun x y => o x y ≤ 0) → Ups o (compG o l)
  | [], _ => List.Pairwise.nil
  | [x], _ => by show List.Pairwise _ [x]; simp
  | x :: y :: r, hl => by
    obtain ⟨hx, hr⟩ := List.pairwise_cons.1 hl
    have ih := compG_ups h (y :: r) hr
    unfold compG
    split
    · exact ih
    · rename_i h0
      refine List.pairwise_cons.2 ⟨fun z hz => ?_, ih⟩
      rw [compG_mem h] at hz
      have h1 := hx y (by simp)
      rcases List.mem_cons.1 hz with e | e
      · rw [e]; omega
      · have h2 := (List.pairwise_cons.1 hr).1 z e
        exact h.lt (by omega) h2

/-- where it is put -/
def putAt (o : α → α → Int) (x : α) : List α → Nat
  | [] => 0
  | y :: r => if o y x < 0 then putAt o x r + 1 else 0
/-- put in its place, unless it is there -/
def putG (o : α → α → Int) (l : List α) (x : α) : List α :=
  if (l[putAt o x l]?).any (fun y => decide (o y x = 0)) then l else l.take (putAt o x l) ++ x :: l.drop (putAt o x l)
theorem putAt_le (x : α) : ∀ l : List α, putAt o x l ≤ l.length
  | [] => Nat.le_refl _
  | y :: r => by
    have := putAt_le x r
    unfold putAt
    split
    · simp; omega
    · simp
theorem putG_cons (x y : α) (r : List α) : putG o (y :: r) x = if o y x < 0 then y :: putG o r x else if o y x = 0 then y :: r else x :: y :: r := by
  by_cases h1 : o y x < 0
  · rw [if_pos h1]
    have e : putAt o x (y :: r) = putAt o x r + 1 := by rw [putAt, if_pos h1]
    unfold putG
    rw [e, List.getElem?_cons_succ]
    split
    · rfl
    · rfl
  · rw [if_neg h1]
    have e : putAt o x (y :: r) = 0 := by rw [putAt, if_neg h1]
    unfold putG
    rw [e]
    by_cases h2 : o y x = 0
    · simp [h2]
    · simp [h2]
theorem putG_nil (x : α) : putG o [] x = [x] := by
  unfold putG putAt; simp
theorem putG_mem (h : VOrd.IsOrd o) (x : α) : ∀ (l : List α) (z : α), z ∈ putG o l x ↔ z = x ∨ z ∈ l
  | [], z => by rw [putG_nil]; simp
  | y :: r, z => by
    have ih := putG_mem h x r z
    rw [putG_cons]
    split
    · rw [List.mem_cons, ih, List.mem_cons]
      constructor
      · rintro (a | a | a)
        · exact .inr (.inl a)
        · exact .inl a
        · exact .inr (.inr a)
      · rintro (a | a | a)
        · exact .inr (.inl a)
        · exact .inl a
        · exact .inr (.inr a)
    · split
      · rename_i h2
        have e := (h.zero y x).1 h2
        subst e
        constructor
        · intro a; exact .inr a
        · rintro (a | a)
          · rw [a]; simp
          · exact a
      · rw [List.mem_cons]
theorem putG_ups (h : VOrd.IsOrd o) (x : α) : ∀ (l : List α), Ups o l → Ups o (putG o l x)
  | [], _ => by rw [putG_nil]; show List.Pairwise _ [x]; simp
  | y :: r, hl => by
    obtain ⟨hy, hr⟩ := List.pairwise_cons.1 hl
    have ih := putG_ups h x r hr
    rw [putG_cons]
    split
    · rename_i h1
      refine List.pairwise_cons.2 ⟨fun z hz => ?_, ih⟩
      rcases (putG_mem h x r z).1 hz with e | e
      · rw [e]; exact h1
      · exact hy z e
    · split
      · exact hl
      · rename_i h1 h2
        have h3 := h.swap y x
        refine List.pairwise_cons.2 ⟨fun z hz => ?_, hl⟩
        rcases List.mem_cons.1 hz with e | e
        · rw [e]; omega
        · exact h.lt (b := y) (by omega) (by have := hy z e; omega)
/-- the document's: each put in its place -/
def putsG (o : α → α → Int) (l : List α) : List α := l.foldl (putG o) []
theorem putsG_from (h : VOrd.IsOrd o) : ∀ (l a : List α), Ups o a → Ups o (l.foldl (putG o) a) ∧ ∀ z, z ∈ l.foldl (putG o) a ↔ z ∈ a ∨ z ∈ l
  | [], a, ha => ⟨ha, fun z => by simp⟩
  | x :: l, a, ha => by
    obtain ⟨h1, h2⟩ := putsG_from h l (putG o a x) (putG_ups h x a ha)
    refine ⟨h1, fun z => ?_⟩
    rw [List.foldl_cons, h2, putG_mem h, List.mem_cons]
    constructor
    · rintro ((a | a) | a)
      · exact .inr (.inl a)
      · exact .inl a
      · exact .inr (.inr a)
    · rintro (a | a | a)
      · exact .inl (.inr a)
      · exact .inl (.inl a)
      · exact .inr a
end
section
variable {α : Type} {o : α → α → Int}
theorem compG_two (h : VOrd.IsOrd o) (y x : α) : compG o [y, x] = if o y x = 0 then [y] else [y, x] := by
  unfold compG
  split
  · rename_i h0
    rw [(h.zero y x).1 h0]; rfl
  · rfl
theorem compG_snoc (h : VOrd.IsOrd o) : ∀ (l : List α) (y x : α), compG o (l ++ [y, x]) = if o y x = 0 then compG o (l ++ [y]) else compG o (l ++ [y]) ++ [x]
  | [], y, x => by
    show compG o [y, x] = if o y x = 0 then compG o [y] else compG o [y] ++ [x]
    rw [compG_two h]; rfl
  | [a], y, x => by
    show compG o (a :: y :: [x]) = if o y x = 0 then compG o (a :: y :: []) else compG o (a :: y :: []) ++ [x]
    have e1 : compG o (a :: y :: [x]) = if o a y = 0 then compG o [y, x] else a :: compG o [y, x] := by rw [compG]
    have e2 : compG o (a :: y :: []) = if o a y = 0 then compG o [y] else a :: compG o [y] := by conv => lhs; rw [compG]
    rw [e1, e2, compG_two h]
    have e3 : compG o [y] = [y] := rfl
    rw [e3]
    by_cases h1 : o a y = 0 <;> by_cases h2 : o y x = 0 <;> simp [h1, h2]
  | a :: b :: l, y, x => by
    have ih := compG_snoc h (b :: l) y x
    have e1 : compG o (a :: b :: (l ++ [y, x])) = if o a b = 0 then compG o (b :: (l ++ [y, x])) else a :: compG o (b :: (l ++ [y, x])) := by rw [compG]
    have e2 : compG o (a :: b :: (l ++ [y])) = if o a b = 0 then compG o (b :: (l ++ [y])) else a :: compG o (b :: (l ++ [y])) := by rw [compG]
    show compG o (a :: b :: (l ++ [y, x])) = if o y x = 0 then compG o (a :: b :: (l ++ [y])) else compG o (a :: b :: (l ++ [y])) ++ [x]
    rw [e1, e2]
    have ih' : compG o (b :: (l ++ [y, x])) = if o y x = 0 then compG o (b :: (l ++ [y])) else compG o (b :: (l ++ [y])) ++ [x] := ih
    rw [ih']
    by_cases h1 : o a b = 0 <;> by_cases h2 : o y x = 0 <;> simp [h1, h2]
variable [Inhabited α] [DecidableEq α]
theorem compUp (h : VOrd.IsOrd o) (d : Array α) : ∀ m, m ≤ d.size → compactUpTo d m = compG o (d.toList.take m)
  | 0, _ => by simp [compactUpTo, compG]
  | 1, hm => by
    rw [compactUpTo_succ]
    have e : d.toList.take 1 = [d[0]!] := by
      rw [List.take_succ_eq_append_getElem (by simp; omega), getElem!_pos d 0 (by omega)]; simp
    rw [e]
    simp [compactUpTo, keeps, compG]
  | m + 2, hm => by
    have ih := compUp h d (m + 1) (by omega)
    have e1 : d.toList.take (m + 1) = d.toList.take m ++ [d[m]!] := by
      rw [List.take_succ_eq_append_getElem (by simp; omega), getElem!_pos d m (by omega)]; simp
    have e2 : d.toList.take (m + 2) = d.toList.take m ++ [d[m]!, d[m + 1]!] := by
      rw [List.take_succ_eq_append_getElem (by simp; omega), e1, getElem!_pos d (m + 1) (by omega)]; simp
    rw [compactUpTo_succ, ih, e2, compG_snoc h, ← e1]
    by_cases hx : d[m + 1]! = d[m]!
    · have hz : o d[m]! d[m + 1]! = 0 := (h.zero _ _).2 hx.symm
      rw [if_pos hz, keeps_neg (by omega) (by simpa using hx)]; simp
    · have hz : ¬ o d[m]! d[m + 1]! = 0 := fun e => hx ((h.zero _ _).1 e).symm
      rw [if_neg hz, keeps_pos (by simpa using hx)]; simp
theorem compAll (h : VOrd.IsOrd o) (d : Array α) : compactUpTo d d.size = compG o d.toList := by
  rw [compUp h d d.size (Nat.le_refl _), List.take_of_length_le (by simp)]
theorem compUp_len (d : Array α) (m : Nat) : (compactUpTo d m).length ≤ m := by
  unfold compactUpTo
  rw [List.length_map]
  exact Nat.le_trans (List.length_filter_le _ _) (by simp)
end

section
variable {α : Type} {o : α → α → Int}
/-- what rises, with all of some list's, is that list, each once, in order -/
theorem puts_of (h : VOrd.IsOrd o) {l s : List α} (hs : Ups o s) (hm : ∀ z, z ∈ s ↔ z ∈ l) : s = putsG o l := by
  obtain ⟨h1, h2⟩ := putsG_from h l [] List.Pairwise.nil
  exact ups_uniq h _ _ hs h1 fun z => (hm z).trans ((h2 z).trans (by simp)).symm
theorem putsG_ups (h : VOrd.IsOrd o) (l : List α) : Ups o (putsG o l) := (putsG_from h l [] List.Pairwise.nil).1
theorem putsG_mem (h : VOrd.IsOrd o) (l : List α) (z : α) : z ∈ putsG o l ↔ z ∈ l := ((putsG_from h l [] List.Pairwise.nil).2 z).trans (by simp)
theorem puts_self (h : VOrd.IsOrd o) {l : List α} (hl : Ups o l) : putsG o l = l := (puts_of h hl fun _ => Iff.rfl).symm
/-- what is sorted, then each once -/
theorem comp_puts (h : VOrd.IsOrd o) {s l : List α} (hs : s.Pairwise fun x y => o x y ≤ 0) (hm : ∀ z, z ∈ s ↔ z ∈ l) : compG o s = putsG o l :=
  puts_of h (compG_ups h s hs) fun z => (compG_mem h s z).trans (hm z)
theorem putsG_snoc (l : List α) (x : α) : putsG o (l ++ [x]) = putG o (putsG o l) x := by
  unfold putsG; rw [List.foldl_append]; rfl
/-- put at its place, found from the end -/
theorem put_there (h : VOrd.IsOrd o) {l : List α} {x : α} {k : Nat} (hkl : k ≤ l.length) (hl : Ups o l) (h1 : ∀ (i : Nat) (y : α), k ≤ i → l[i]? = some y → o x y < 0) (h2 : ∀ y, 0 < k → l[k - 1]? = some y → 0 < o x y) : l.take k ++ x :: l.drop k = putG o l x := by
  refine ups_uniq h _ _ ?_ (putG_ups h x l hl) fun z => ?_
  · refine List.pairwise_append.2 ⟨List.Pairwise.sublist (List.take_sublist _ _) hl, List.pairwise_cons.2 ⟨fun y hy => ?_, List.Pairwise.sublist (List.drop_sublist _ _) hl⟩, fun a ha b hb => ?_⟩
    · obtain ⟨i, hi⟩ := List.getElem?_of_mem hy
      rw [List.getElem?_drop] at hi
      exact h1 _ y (Nat.le_add_right _ _) hi
    · obtain ⟨i, hi, rfl⟩ := List.getElem_of_mem ha
      have hik : i < k ∧ i < l.length := by rw [List.length_take] at hi; omega
      rw [List.getElem_take]
      have hax : o l[i] x < 0 := by
        have hz : l[k - 1]? = some (l[k - 1]'(by omega)) := List.getElem?_eq_getElem (by omega)
        have h3 := h2 _ (by omega) hz
        have h4 := h.swap x (l[k - 1]'(by omega))
        by_cases e : i = k - 1
        · subst e; omega
        · have h5 := List.pairwise_iff_getElem.1 hl i (k - 1) hik.2 (by omega) (by omega)
          exact h.lt h5 (by omega)
      rcases List.mem_cons.1 hb with e | e
      · rw [e]; exact hax
      · obtain ⟨q, hq⟩ := List.getElem?_of_mem e
        rw [List.getElem?_drop] at hq
        have h6 := h1 _ b (Nat.le_add_right _ _) hq
        exact h.lt hax (by omega)
  · rw [putG_mem h, List.mem_append, List.mem_cons]
    have e : z ∈ l ↔ z ∈ l.take k ∨ z ∈ l.drop k := by
      conv => lhs; rw [← List.take_append_drop k l]
      exact List.mem_append
    rw [e]
    constructor
    · rintro (a | a | a)
      · exact .inr (.inl a)
      · exact .inl a
      · exact .inr (.inr a)
    · rintro (a | a | a)
      · exact .inr (.inl a)
      · exact .inl a
      · exact .inr (.inr a)
theorem put_old (h : VOrd.IsOrd o) {l : List α} {x : α} (hl : Ups o l) (hx : x ∈ l) : putG o l x = l := by
  refine ups_uniq h _ _ (putG_ups h x l hl) hl fun z => ?_
  rw [putG_mem h]
  constructor
  · rintro (e | e)
    · rw [e]; exact hx
    · exact e
  · exact .inr
end
end Go.Proofs.Ytofmfainhflmmaa
