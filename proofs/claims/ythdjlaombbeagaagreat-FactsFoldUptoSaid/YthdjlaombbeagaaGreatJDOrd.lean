import Derived.Test.YthdjlaombbeagaaGreatJLeaf
import Derived.Test.YthdjlaombbeagaaGreatJSortG
import Derived.Test.YthdjlaombbeagaaGreatJOrdRef
import Derived.Test.YthdjlaombbeagaaGreatJDPure
/-
  PLAIN: the order of values is one order (under a name of its own, for the seat that holds OPure too).
-/
namespace Go.Proofs.YthdjlaombbeagaaGreat.VOrd
open Go.RowKit

structure IsOrd {α : Type} (o : α → α → Int) : Prop where
  range : ∀ a b, o a b = -1 ∨ o a b = 0 ∨ o a b = 1
  zero : ∀ a b, o a b = 0 ↔ a = b
  swap : ∀ a b, o b a = - o a b
  trans : ∀ a b c, o a b ≤ 0 → o b c ≤ 0 → o a c ≤ 0

def lexO {α β : Type} (o : α → α → Int) (p : β → β → Int) (x y : α × β) : Int := if o x.1 y.1 = 0 then p x.2 y.2 else o x.1 y.1

theorem IsOrd.lt {α : Type} {o : α → α → Int} (h : IsOrd o) {a b c : α} (h1 : o a b < 0) (h2 : o b c ≤ 0) : o a c < 0 := by
  have h3 := h.trans a b c (by omega) h2
  rcases Int.lt_or_le (o a c) 0 with h4 | h4
  · exact h4
  · have h5 : a = c := (h.zero a c).1 (by omega)
    subst h5
    have h6 := h.swap a b
    omega
theorem IsOrd.lt' {α : Type} {o : α → α → Int} (h : IsOrd o) {a b c : α} (h1 : o a b ≤ 0) (h2 : o b c < 0) : o a c < 0 := by
  have h3 := h.trans a b c h1 (by omega)
  rcases Int.lt_or_le (o a c) 0 with h4 | h4
  · exact h4
  · have h5 : a = c := (h.zero a c).1 (by omega)
    subst h5
    have h6 := h.swap a b
    omega

theorem ordI_is : IsOrd ordI where
  range := ordI_range
  zero := fun _ _ => ordI_zero
  swap := fun a b => by
    unfold ordI
    by_cases h1 : a < b
    · rw [if_neg (by omega), if_pos h1, if_pos h1]; rfl
    · by_cases h2 : b < a
      · rw [if_pos h2, if_neg h1, if_pos h2]
      · rw [if_neg h2, if_neg h1, if_neg h1, if_neg h2]; rfl
  trans := fun a b c h1 h2 => by
    unfold ordI at *
    by_cases k1 : a < c
    · rw [if_pos k1]; omega
    · rw [if_neg k1]
      by_cases k2 : c < a
      · exfalso
        by_cases k3 : b < a
        · rw [if_neg (by omega), if_pos k3] at h1; omega
        · by_cases k4 : c < b
          · rw [if_neg (by omega), if_pos k4] at h2; omega
          · omega
      · rw [if_neg k2]; omega

theorem lex_is {α β : Type} {o : α → α → Int} {p : β → β → Int} (ho : IsOrd o) (hp : IsOrd p) : IsOrd (lexO o p) where
  range := fun a b => by
    unfold lexO; split
    · exact hp.range _ _
    · exact ho.range _ _
  zero := fun a b => by
    unfold lexO; split
    · rename_i h
      rw [hp.zero]
      have := (ho.zero _ _).1 h
      constructor
      · intro h2; exact Prod.ext this h2
      · intro h2; rw [h2]
    · rename_i h
      constructor
      · intro h2; exact absurd h2 h
      · intro h2; rw [h2] at h; exact absurd ((ho.zero _ _).2 rfl) h
  swap := fun a b => by
    unfold lexO
    have h := ho.swap a.1 b.1
    by_cases k : o a.1 b.1 = 0
    · rw [if_pos (by omega), if_pos k]; exact hp.swap _ _
    · rw [if_neg (by omega), if_neg k]; exact h
  trans := fun a b c h1 h2 => by
    unfold lexO at *
    have r1 := ho.range a.1 b.1
    have r2 := ho.range b.1 c.1
    by_cases k1 : o a.1 b.1 = 0
    · have e1 := (ho.zero _ _).1 k1
      rw [if_pos k1] at h1
      by_cases k2 : o b.1 c.1 = 0
      · rw [if_pos k2] at h2
        rw [e1, if_pos k2]; exact hp.trans _ _ _ h1 h2
      · rw [if_neg k2] at h2
        rw [e1, if_neg k2]; exact h2
    · rw [if_neg k1] at h1
      have h3 : o b.1 c.1 ≤ 0 := by
        by_cases k2 : o b.1 c.1 = 0
        · omega
        · rw [if_neg k2] at h2; exact h2
      have h4 := ho.lt (a := a.1) (b := b.1) (c := c.1) (by omega) h3
      rw [if_neg (by omega)]; omega

theorem ordL_cons (x y : UInt8) (l r : List UInt8) : ordL (x :: l) (y :: r) = lexO (fun a b : UInt8 => ordI a.toNat b.toNat) ordL (x, l) (y, r) := by
  unfold lexO ordI
  show (if x.toNat < y.toNat then -1 else if y.toNat < x.toNat then 1 else ordL l r) = _
  by_cases h1 : x.toNat < y.toNat
  · have h1' : (x.toNat : Int) < y.toNat := by omega
    simp [h1]
  · by_cases h2 : y.toNat < x.toNat
    · simp [h1, h2]
    · simp [h1, h2]

theorem ordB_is : IsOrd (fun a b : UInt8 => ordI a.toNat b.toNat) where
  range := fun _ _ => ordI_range _ _
  zero := fun a b => by
    rw [ordI_zero]
    constructor
    · intro h; exact UInt8.toNat_inj.1 (by omega)
    · intro h; rw [h]
  swap := fun a b => ordI_is.swap _ _
  trans := fun a b c => ordI_is.trans _ _ _

theorem ordL_zero : ∀ (l r : List UInt8), ordL l r = 0 ↔ l = r
  | [], [] => by simp [ordL]
  | [], _ :: _ => by simp [ordL]
  | _ :: _, [] => by simp [ordL]
  | x :: l, y :: r => by
    rw [ordL_cons]
    unfold lexO
    have ih := ordL_zero l r
    by_cases h : ordI (x.toNat : Int) y.toNat = 0
    · simp only [h, if_true]
      have e := (ordB_is.zero x y).1 h
      rw [ih, e]; simp
    · simp only [h, if_false]
      constructor
      · intro h2; exact h2.elim
      · intro h2; injection h2 with h3 _; rw [h3] at h; exact h (ordI_zero.2 rfl)
theorem ordL_swap : ∀ (l r : List UInt8), ordL r l = - ordL l r
  | [], [] => by simp [ordL]
  | [], _ :: _ => by simp [ordL]
  | _ :: _, [] => by simp [ordL]
  | x :: l, y :: r => by
    rw [ordL_cons, ordL_cons]
    unfold lexO
    have ih := ordL_swap l r
    have h : ordI (y.toNat : Int) x.toNat = - ordI (x.toNat : Int) y.toNat := ordB_is.swap x y
    by_cases k : ordI (x.toNat : Int) y.toNat = 0
    · simp only [k, if_true]
      rw [k] at h
      simp only [h, Int.neg_zero, if_true]; exact ih
    · simp only [k, if_false]
      rw [if_neg (by omega)]; exact h
theorem ordL_trans : ∀ (l r t : List UInt8), ordL l r ≤ 0 → ordL r t ≤ 0 → ordL l t ≤ 0
  | [], _, [] => by simp [ordL]
  | [], _, _ :: _ => by simp [ordL]
  | _ :: _, [], _ => by simp [ordL]
  | _ :: _, _ :: _, [] => by simp [ordL]
  | x :: l, y :: r, z :: t => by
    rw [ordL_cons, ordL_cons, ordL_cons]
    unfold lexO
    simp only
    intro h1 h2
    by_cases k1 : ordI (x.toNat : Int) y.toNat = 0
    · have e1 := (ordB_is.zero x y).1 k1
      rw [if_pos k1] at h1
      subst e1
      by_cases k2 : ordI (x.toNat : Int) z.toNat = 0
      · rw [if_pos k2] at h2
        rw [if_pos k2]; exact ordL_trans l r t h1 h2
      · rw [if_neg k2] at h2
        rw [if_neg k2]; exact h2
    · rw [if_neg k1] at h1
      have h3 : ordI (y.toNat : Int) z.toNat ≤ 0 := by
        by_cases k2 : ordI (y.toNat : Int) z.toNat = 0
        · omega
        · rw [if_neg k2] at h2; exact h2
      have h4 := ordI_is.lt (a := (x.toNat : Int)) (b := (y.toNat : Int)) (c := (z.toNat : Int)) (by omega) h3
      rw [if_neg (by omega)]; omega
theorem ordS_is : IsOrd ordS where
  range := fun _ _ => ordL_range _ _
  zero := fun a b => by
    unfold ordS; rw [ordL_zero]
    constructor
    · intro h; exact ByteArray.ext (Array.toList_inj.1 h)
    · intro h; rw [h]
  swap := fun _ _ => ordL_swap _ _
  trans := fun _ _ _ => ordL_trans _ _ _

def ordT (a b : Int × (Int × ByteArray)) : Int := ordV a.1 a.2.1 a.2.2 b.1 b.2.1 b.2.2
theorem ordT_is : IsOrd ordT := lex_is ordI_is (lex_is ordI_is ordS_is)

end Go.Proofs.YthdjlaombbeagaaGreat.VOrd

/-
  CONTRACT: slices.SortFunc at values, by value.Compare.
-/
namespace Go.Proofs.YthdjlaombbeagaaGreat
open Go.RowKit Go.Shelf
open Go.Sort (SWO SortedIn PermIn grow grow_grow alloc_eq_grow HoldsK)

/-- an order sorts -/
theorem swoO {α : Type} {o : α → α → Int} (h : VOrd.IsOrd o) : SWO (ltOf o) where
  irrefl x := by
    unfold ltOf
    rw [decide_eq_false_iff_not, (h.zero x x).2 rfl]; omega
  trans x y z h1 h2 := by
    unfold ltOf at *
    rw [decide_eq_true_eq] at *
    exact h.lt h1 (by omega)
  ntrans x y z h1 h2 := by
    unfold ltOf at *
    rw [decide_eq_false_iff_not] at *
    have a1 := h.swap x y
    have a2 := h.swap y z
    have a3 := h.swap x z
    have a4 := h.trans z y x (by omega) (by omega)
    omega
theorem apartO {α : Type} {o : α → α → Int} (h : VOrd.IsOrd o) (x y : α) (h1 : ltOf o x y = false) (h2 : ltOf o y x = false) : x = y := by
  unfold ltOf at *
  rw [decide_eq_false_iff_not] at *
  have a1 := h.swap x y
  exact (h.zero x y).1 (by omega)

/-- one value: kind, number, text -/
abbrev Vl := Int × (Int × ByteArray)
def cellsV (v : Vl) : List Value := [.int .i64 v.1, .int .i64 v.2.1, .string v.2.2]
theorem cellsV_len (v : Vl) : (cellsV v).length = 3 := rfl

end Go.Proofs.YthdjlaombbeagaaGreat

/-
  PLAIN FACTS: what is sorted, each once, is one list.
-/
namespace Go.Proofs.YthdjlaombbeagaaGreat
open Go.Shelf

section
variable {α : Type} {o : α → α → Int}
/-- strictly rising -/
def Ups (o : α → α → Int) (l : List α) : Prop := l.Pairwise fun x y => o x y < 0
/-- two lists that rise strictly, and hold the same, are one -/
theorem ups_uniq (h : VOrd.IsOrd o) : ∀ (a b : List α), Ups o a → Ups o b → (∀ x, x ∈ a ↔ x ∈ b) → a = b
  | [], [], _, _, _ => rfl
  | [], y :: _, _, _, hm => absurd ((hm y).2 (by simp)) (by simp)
  | x :: _, [], _, _, hm => absurd ((hm x).1 (by simp)) (by simp)
  | x :: a, y :: b, ha, hb, hm => by
    obtain ⟨hx, ha'⟩ := List.pairwise_cons.1 ha
    obtain ⟨hy, hb'⟩ := List.pairwise_cons.1 hb
    have e : x = y := by
      rcases List.mem_cons.1 ((hm x).1 (by simp)) with e | e
      · exact e
      · rcases List.mem_cons.1 ((hm y).2 (by simp)) with e' | e'
        · exact e'.symm
        · have h1 := hy x e
          have h2 := hx y e'
          have h3 := h.swap x y
          omega
    subst e
    have hself : o x x = 0 := (h.zero x x).2 rfl
    have he : a = b := ups_uniq h a b ha' hb' fun z => by
      constructor
      · intro hz
        rcases List.mem_cons.1 ((hm z).1 (by simp [hz])) with e | e
        · subst e
          have h1 := hx z hz
          omega
        · exact e
      · intro hz
        rcases List.mem_cons.1 ((hm z).2 (by simp [hz])) with e | e
        · subst e
          have h1 := hy z hz
          omega
        · exact e
    rw [he]

/-- each once, of what stands side by side -/
def compG (o : α → α → Int) : List α → List α
  | [] => []
  | [x] => [x]
  | x :: y :: r => if o x y = 0 then compG o (y :: r) else x :: compG o (y :: r)
theorem compG_mem (h : VOrd.IsOrd o) : ∀ (l : List α) (z : α), z ∈ compG o l ↔ z ∈ l
  | [], z => by simp [compG]
  | [x], z => by simp [compG]
  | x :: y :: r, z => by
    have ih := compG_mem h (y :: r) z
    unfold compG
    split
    · rename_i h0
      have e := (h.zero x y).1 h0
      rw [ih, e]; simp
    · rw [List.mem_cons, ih]; simp
theorem compG_ups (h : VOrd.IsOrd o) : ∀ (l : List α), l.Pairwise (fun x y => o x y ≤ 0) → Ups o (compG o l)
  | [], _ => List.Pairwise.nil
  | [x], _ => by show List.Pairwise _ [x]; simp
  | x :: y :: r, hl => by
    obtain ⟨hx, hr⟩ := List.pairwise_cons.1 hl
    have ih := compG_ups h (y :: r) hr
    unfold compG
    split
    · exact ih
    · rename_i h0
      refine List.pairwise_cons.2 ⟨fun z hz => ?_, ih⟩
      rw [compG_mem h] at hz
      have h1 := hx y (by simp)
      rcases List.mem_cons.1 hz with e | e
      · rw [e]; omega
      · have h2 := (List.pairwise_cons.1 hr).1 z e
        exact h.lt (by omega) h2

/-- rising, by the sort -/
def riseG (o : α → α → Int) (l : List α) : List α := l.mergeSort fun x y => !(ltOf o) y x
theorem riseG_up (h : VOrd.IsOrd o) (l : List α) : (riseG o l).Pairwise (fun x y => o x y ≤ 0) := by
  have hle : ∀ x y : α, (!(ltOf o) y x) = true ↔ o x y ≤ 0 := fun x y => by
    unfold ltOf
    have := h.swap x y
    simp only [Bool.not_eq_true', decide_eq_false_iff_not]
    omega
  have hp := List.pairwise_mergeSort (le := fun x y => !(ltOf o) y x)
    (fun a b c h1 h2 => (hle a c).2 (h.trans a b c ((hle a b).1 h1) ((hle b c).1 h2)))
    (fun a b => by
      rw [Bool.or_eq_true, hle, hle]
      have := h.swap a b
      omega) l
  exact hp.imp fun {a b} h1 => (hle a b).1 h1
theorem riseG_mem (l : List α) (z : α) : z ∈ riseG o l ↔ z ∈ l := List.mem_mergeSort
theorem riseG_len (l : List α) : (riseG o l).length = l.length := List.length_mergeSort l

/-- where it is put -/
def putAt (o : α → α → Int) (x : α) : List α → Nat
  | [] => 0
  | y :: r => if o y x < 0 then putAt o x r + 1 else 0
/-- put in its place, unless it is there -/
def putG (o : α → α → Int) (l : List α) (x : α) : List α :=
  if (l[putAt o x l]?).any (fun y => decide (o y x = 0)) then l else l.take (putAt o x l) ++ x :: l.drop (putAt o x l)
theorem putAt_le (x : α) : ∀ l : List α, putAt o x l ≤ l.length
  | [] => Nat.le_refl _
  | y :: r => by
    have := putAt_le x r
    unfold putAt
    split
    · simp; omega
    · simp
theorem putG_cons (x y : α) (r : List α) : putG o (y :: r) x = if o y x < 0 then y :: putG o r x else if o y x = 0 then y :: r else x :: y :: r := by
  by_cases h1 : o y x < 0
  · rw [if_pos h1]
    have e : putAt o x (y :: r) = putAt o x r + 1 := by rw [putAt, if_pos h1]
    unfold putG
    rw [e, List.getElem?_cons_succ]
    split
    · rfl
    · rfl
  · rw [if_neg h1]
    have e : putAt o x (y :: r) = 0 := by rw [putAt, if_neg h1]
    unfold putG
    rw [e]
    by_cases h2 : o y x = 0
    · simp [h2]
    · simp [h2]
theorem putG_nil (x : α) : putG o [] x = [x] := by
  unfold putG putAt; simp
theorem putG_mem (h : VOrd.IsOrd o) (x : α) : ∀ (l : List α) (z : α), z ∈ putG o l x ↔ z = x ∨ z ∈ l
  | [], z => by rw [putG_nil]; simp
  | y :: r, z => by
    have ih := putG_mem h x r z
    rw [putG_cons]
    split
    · rw [List.mem_cons, ih, List.mem_cons]
      constructor
      · rintro (a | a | a)
        · exact .inr (.inl a)
        · exact .inl a
        · exact .inr (.inr a)
      · rintro (a | a | a)
        · exact .inr (.inl a)
        · exact .inl a
        · exact .inr (.inr a)
    · split
      · rename_i h2
        have e := (h.zero y x).1 h2
        subst e
        constructor
        · intro a; exact .inr a
        · rintro (a | a)
          · rw [a]; simp
          · exact a
      · rw [List.mem_cons]
theorem putG_ups (h : VOrd.IsOrd o) (x : α) : ∀ (l : List α), Ups o l → Ups o (putG o l x)
  | [], _ => by rw [putG_nil]; show List.Pairwise _ [x]; simp
  | y :: r, hl => by
    obtain ⟨hy, hr⟩ := List.pairwise_cons.1 hl
    have ih := putG_ups h x r hr
    rw [putG_cons]
    split
    · rename_i h1
      refine List.pairwise_cons.2 ⟨fun z hz => ?_, ih⟩
      rcases (putG_mem h x r z).1 hz with e | e
      · rw [e]; exact h1
      · exact hy z e
    · split
      · exact hl
      · rename_i h1 h2
        have h3 := h.swap y x
        refine List.pairwise_cons.2 ⟨fun z hz => ?_, hl⟩
        rcases List.mem_cons.1 hz with e | e
        · rw [e]; omega
        · exact h.lt (b := y) (by omega) (by have := hy z e; omega)
/-- the document's: each put in its place -/
def putsG (o : α → α → Int) (l : List α) : List α := l.foldl (putG o) []
theorem putsG_from (h : VOrd.IsOrd o) : ∀ (l a : List α), Ups o a → Ups o (l.foldl (putG o) a) ∧ ∀ z, z ∈ l.foldl (putG o) a ↔ z ∈ a ∨ z ∈ l
  | [], a, ha => ⟨ha, fun z => by simp⟩
  | x :: l, a, ha => by
    obtain ⟨h1, h2⟩ := putsG_from h l (putG o a x) (putG_ups h x a ha)
    refine ⟨h1, fun z => ?_⟩
    rw [List.foldl_cons, h2, putG_mem h, List.mem_cons]
    constructor
    · rintro ((a | a) | a)
      · exact .inr (.inl a)
      · exact .inl a
      · exact .inr (.inr a)
    · rintro (a | a | a)
      · exact .inl (.inr a)
      · exact .inl (.inl a)
      · exact .inr a
/-- THE TWO WAYS OF SORTING, EACH ONCE, ARE ONE. -/
theorem sorted_once (h : VOrd.IsOrd o) (l : List α) : compG o (riseG o l) = putsG o l := by
  obtain ⟨h1, h2⟩ := putsG_from h l [] List.Pairwise.nil
  refine ups_uniq h _ _ (compG_ups h _ (riseG_up h l)) h1 fun z => ?_
  rw [compG_mem h, riseG_mem]
  exact ((h2 z).trans (by simp)).symm
end
end Go.Proofs.YthdjlaombbeagaaGreat

/-
  PLAIN: how two datoms stand in an order is one order.
-/
namespace Go.Proofs.YthdjlaombbeagaaGreat
open VOrd (IsOrd lexO lex_is ordI_is ordT_is ordT)

instance : Inhabited Dat := ⟨⟨0, 0, 0, 0, ⟨#[]⟩, 0, false, 0, 0⟩⟩
theorem ord_pull {α β : Type} {o : β → β → Int} (h : IsOrd o) (f : α → β) (hf : ∀ a b, f a = f b → a = b) : IsOrd (fun a b => o (f a) (f b)) where
  range := fun _ _ => h.range _ _
  zero := fun a b => by
    rw [h.zero]
    exact ⟨hf a b, fun e => by rw [e]⟩
  swap := fun _ _ => h.swap _ _
  trans := fun _ _ _ => h.trans _ _ _
theorem cutN_inj {a b : Bool} (h : cutN a = cutN b) : a = b := by
  cases a <;> cases b <;> first | rfl | (exfalso; simp [cutN] at h)
/-- what stands behind the first three places -/
def tailD (d : Dat) : Int × (Int × (Int × Int)) := (d.t, (cutN d.add, (d.fr, d.til)))
def tailO : (Int × (Int × (Int × Int))) → (Int × (Int × (Int × Int))) → Int := lexO ordI (lexO ordI (lexO ordI ordI))
theorem tailO_is : IsOrd tailO := lex_is ordI_is (lex_is ordI_is (lex_is ordI_is ordI_is))
def valD (d : Dat) : Int × (Int × ByteArray) := (d.k, (d.m, d.s))
theorem dat_eq {d d' : Dat} (h1 : d.e = d'.e) (h2 : d.a = d'.a) (h3 : valD d = valD d') (h4 : tailD d = tailD d') : d = d' := by
  obtain ⟨e, a, k, m, s, t, add, fr, til⟩ := d
  obtain ⟨e', a', k', m', s', t', add', fr', til'⟩ := d'
  simp only [valD, tailD, Prod.mk.injEq] at *
  obtain ⟨rfl, rfl, rfl⟩ := h3
  obtain ⟨rfl, h5, rfl, rfl⟩ := h4
  have := cutN_inj h5
  subst h1 h2 this
  rfl
theorem ordK_num (a b : Int) : ordK [numP a] [numP b] = ordI a b := by
  show (if ordI a b = 0 then (0 : Int) else ordI a b) = ordI a b
  split
  · rename_i h; rw [h]
  · rfl
theorem ordK_tail (d d' : Dat) : ordK [numP d.t, numP (cutN d.add), numP d.fr, numP d.til] [numP d'.t, numP (cutN d'.add), numP d'.fr, numP d'.til] = tailO (tailD d) (tailD d') := by
  show (if ordI d.t d'.t = 0 then (if ordI (cutN d.add) (cutN d'.add) = 0 then (if ordI d.fr d'.fr = 0 then ordK [numP d.til] [numP d'.til] else ordI d.fr d'.fr) else ordI (cutN d.add) (cutN d'.add)) else ordI d.t d'.t) = _
  rw [ordK_num]; rfl
theorem ordD_is {o : Int} (ho : isO o = true) : IsOrd (ordD o) := by
  rcases isO_cases ho with rfl | rfl | rfl | rfl
  · have e : ordD 1 = fun d d' => lexO ordI (lexO ordI (lexO ordT tailO)) (d.e, (d.a, (valD d, tailD d))) (d'.e, (d'.a, (valD d', tailD d'))) := by
      funext d d'
      unfold ordD
      rw [if_pos ho, partsD_1, partsD_1]
      show (if ordI d.e d'.e = 0 then (if ordI d.a d'.a = 0 then (if ordT (valD d) (valD d') = 0 then ordK [numP d.t, numP (cutN d.add), numP d.fr, numP d.til] [numP d'.t, numP (cutN d'.add), numP d'.fr, numP d'.til] else ordT (valD d) (valD d')) else ordI d.a d'.a) else ordI d.e d'.e) = _
      rw [ordK_tail]; rfl
    rw [e]
    exact ord_pull (lex_is ordI_is (lex_is ordI_is (lex_is ordT_is tailO_is))) (fun d : Dat => (d.e, (d.a, (valD d, tailD d)))) fun a b h => by
      simp only [Prod.mk.injEq] at h
      exact dat_eq h.1 h.2.1 h.2.2.1 h.2.2.2
  · have e : ordD 2 = fun d d' => lexO ordI (lexO ordI (lexO ordT tailO)) (d.a, (d.e, (valD d, tailD d))) (d'.a, (d'.e, (valD d', tailD d'))) := by
      funext d d'
      unfold ordD
      rw [if_pos ho, partsD_2, partsD_2]
      show (if ordI d.a d'.a = 0 then (if ordI d.e d'.e = 0 then (if ordT (valD d) (valD d') = 0 then ordK [numP d.t, numP (cutN d.add), numP d.fr, numP d.til] [numP d'.t, numP (cutN d'.add), numP d'.fr, numP d'.til] else ordT (valD d) (valD d')) else ordI d.e d'.e) else ordI d.a d'.a) = _
      rw [ordK_tail]; rfl
    rw [e]
    exact ord_pull (lex_is ordI_is (lex_is ordI_is (lex_is ordT_is tailO_is))) (fun d : Dat => (d.a, (d.e, (valD d, tailD d)))) fun a b h => by
      simp only [Prod.mk.injEq] at h
      exact dat_eq h.2.1 h.1 h.2.2.1 h.2.2.2
  · have e : ordD 3 = fun d d' => lexO ordI (lexO ordT (lexO ordI tailO)) (d.a, (valD d, (d.e, tailD d))) (d'.a, (valD d', (d'.e, tailD d'))) := by
      funext d d'
      unfold ordD
      rw [if_pos ho, partsD_3, partsD_3]
      show (if ordI d.a d'.a = 0 then (if ordT (valD d) (valD d') = 0 then (if ordI d.e d'.e = 0 then ordK [numP d.t, numP (cutN d.add), numP d.fr, numP d.til] [numP d'.t, numP (cutN d'.add), numP d'.fr, numP d'.til] else ordI d.e d'.e) else ordT (valD d) (valD d')) else ordI d.a d'.a) = _
      rw [ordK_tail]; rfl
    rw [e]
    exact ord_pull (lex_is ordI_is (lex_is ordT_is (lex_is ordI_is tailO_is))) (fun d : Dat => (d.a, (valD d, (d.e, tailD d)))) fun a b h => by
      simp only [Prod.mk.injEq] at h
      exact dat_eq h.2.2.1 h.1 h.2.1 h.2.2.2
  · have e : ordD 4 = fun d d' => lexO ordT (lexO ordI (lexO ordI tailO)) (valD d, (d.a, (d.e, tailD d))) (valD d', (d'.a, (d'.e, tailD d'))) := by
      funext d d'
      unfold ordD
      rw [if_pos ho, partsD_4, partsD_4]
      show (if ordT (valD d) (valD d') = 0 then (if ordI d.a d'.a = 0 then (if ordI d.e d'.e = 0 then ordK [numP d.t, numP (cutN d.add), numP d.fr, numP d.til] [numP d'.t, numP (cutN d'.add), numP d'.fr, numP d'.til] else ordI d.e d'.e) else ordI d.a d'.a) else ordT (valD d) (valD d')) = _
      rw [ordK_tail]; rfl
    rw [e]
    exact ord_pull (lex_is ordT_is (lex_is ordI_is (lex_is ordI_is tailO_is))) (fun d : Dat => (valD d, (d.a, (d.e, tailD d)))) fun a b h => by
      simp only [Prod.mk.injEq] at h
      exact dat_eq h.2.2.1 h.2.1 h.1 h.2.2.2
end Go.Proofs.YthdjlaombbeagaaGreat
