import Derived.Lib.SlicesCompact
import Derived.Test.YtofmfainhflmmaaJVOrd
import Derived.Shelf.SlSortCmp.NoneTotal
import Derived.Test.YtofmfainhflmmaaJSorts
import Derived.Test.YtofmfainhflmmaaJZCmp
import Derived.Lib.SliceRun
import Derived.Lib.LazyBuf
import Derived.Deep.Draws
import Derived.Deep.LoopGhost
import Derived.Test.YtofmfainhflmmaaJZIdx
import Derived.Shelf.Abstract
import Derived.Test.YtofmfainhflmmaaJZClone
/-
  PLAIN FACTS: what is sorted, each once, is one list; what Compact keeps.
-/
namespace Go.Proofs.Ytofmfainhflmmaa
open Go.Lib (keeps compactUpTo CompInv keeps_pos keeps_neg keeps_lt_one compactUpTo_all compactUpTo_succ range_map_get)

section
variable {α : Type} {o : α → α → Int}
/-- strictly rising -/
def Ups (o : α → α → Int) (l : List α) : Prop := l.Pairwise fun x y => o x y < 0
/-- two lists that rise strictly, and hold the same, are one -/
theorem ups_uniq (h : VOrd.IsOrd o) : ∀ (a b : List α), Ups o a → Ups o b → (∀ x, x ∈ a ↔ x ∈ b) → a = b
  | [], [], _, _, _ => rfl
  | [], y :: _, _, _, hm => absurd ((hm y).2 (by simp)) (by simp)
  | x :: _, [], _, _, hm => absurd ((hm x).1 (by simp)) (by simp)
  | x :: a, y :: b, ha, hb, hm => by
    obtain ⟨hx, ha'⟩ := List.pairwise_cons.1 ha
    obtain ⟨hy, hb'⟩ := List.pairwise_cons.1 hb
    have e : x = y := by
      rcases List.mem_cons.1 ((hm x).1 (by simp)) with e | e
      · exact e
      · rcases List.mem_cons.1 ((hm y).2 (by simp)) with e' | e'
        · exact e'.symm
        · have h1 := hy x e
          have h2 := hx y e'
          have h3 := h.swap x y
          omega
    subst e
    have hself : o x x = 0 := (h.zero x x).2 rfl
    have he : a = b := ups_uniq h a b ha' hb' fun z => by
      constructor
      · intro hz
        rcases List.mem_cons.1 ((hm z).1 (by simp [hz])) with e | e
        · subst e
          have h1 := hx z hz
          omega
        · exact e
      · intro hz
        rcases List.mem_cons.1 ((hm z).2 (by simp [hz])) with e | e
        · subst e
          have h1 := hy z hz
          omega
        · exact e
    rw [he]

/-- each once, of what stands side by side -/
def compG (o : α → α → Int) : List α → List α
  | [] => []
  | [x] => [x]
  | x :: y :: r => if o x y = 0 then compG o (y :: r) else x :: compG o (y :: r)
theorem compG_mem (h : VOrd.IsOrd o) : ∀ (l : List α) (z : α), z ∈ compG o l ↔ z ∈ l
  | [], z => by simp [compG]
  | [x], z => by simp [compG]
  | x :: y :: r, z => by
    have ih := compG_mem h (y :: r) z
    unfold compG
    split
    · rename_i h0
      have e := (h.zero x y).1 h0
      rw [ih, e]; simp
    · rw [List.mem_cons, ih]; simp
theorem compG_ups (h : VOrd.IsOrd o) : ∀ (l : List α), l.Pairwise (fun x y => o x y ≤ 0) → Ups o (compG o l)
  | [], _ => List.Pairwise.nil
  | [x], _ => by show List.Pairwise _ [x]; simp
  | x :: y :: r, hl => by
    obtain ⟨hx, hr⟩ := List.pairwise_cons.1 hl
    have ih := compG_ups h (y :: r) hr
    unfold compG
    split
    · exact ih
    · rename_i h0
      refine List.pairwise_cons.2 ⟨fun z hz => ?_, ih⟩
      rw [compG_mem h] at hz
      have h1 := hx y (by simp)
      rcases List.mem_cons.1 hz with e | e
      · rw [e]; omega
      · have h2 := (List.pairwise_cons.1 hr).1 z e
        exact h.lt (by omega) h2

/-- where it is put -/
def putAt (o : α → α → Int) (x : α) : List α → Nat
  | [] => 0
  | y :: r => if o y x < 0 then putAt o x r + 1 else 0
/-- put in its place, unless it is there -/
def putG (o : α → α → Int) (l : List α) (x : α) : List α :=
  if (l[putAt o x l]?).any (fun y => decide (o y x = 0)) then l else l.take (putAt o x l) ++ x :: l.drop (putAt o x l)
theorem putAt_le (x : α) : ∀ l : List α, putAt o x l ≤ l.length
  | [] => Nat.le_refl _
  | y :: r => by
    have := putAt_le x r
    unfold putAt
    split
    · simp; omega
    · simp
theorem putG_cons (x y : α) (r : List α) : putG o (y :: r) x = if o y x < 0 then y :: putG o r x else if o y x = 0 then y :: r else x :: y :: r := by
  by_cases h1 : o y x < 0
  · rw [if_pos h1]
    have e : putAt o x (y :: r) = putAt o x r + 1 := by rw [putAt, if_pos h1]
    unfold putG
    rw [e, List.getElem?_cons_succ]
    split
    · rfl
    · rfl
  · rw [if_neg h1]
    have e : putAt o x (y :: r) = 0 := by rw [putAt, if_neg h1]
    unfold putG
    rw [e]
    by_cases h2 : o y x = 0
    · simp [h2]
    · simp [h2]
theorem putG_nil (x : α) : putG o [] x = [x] := by
  unfold putG putAt; simp
theorem putG_mem (h : VOrd.IsOrd o) (x : α) : ∀ (l : List α) (z : α), z ∈ putG o l x ↔ z = x ∨ z ∈ l
  | [], z => by rw [putG_nil]; simp
  | y :: r, z => by
    have ih := putG_mem h x r z
    rw [putG_cons]
    split
    · rw [List.mem_cons, ih, List.mem_cons]
      constructor
      · rintro (a | a | a)
        · exact .inr (.inl a)
        · exact .inl a
        · exact .inr (.inr a)
      · rintro (a | a | a)
        · exact .inr (.inl a)
        · exact .inl a
        · exact .inr (.inr a)
    · split
      · rename_i h2
        have e := (h.zero y x).1 h2
        subst e
        constructor
        · intro a; exact .inr a
        · rintro (a | a)
          · rw [a]; simp
          · exact a
      · rw [List.mem_cons]
theorem putG_ups (h : VOrd.IsOrd o) (x : α) : ∀ (l : List α), Ups o l → Ups o (putG o l x)
  | [], _ => by rw [putG_nil]; show List.Pairwise _ [x]; simp
  | y :: r, hl => by
    obtain ⟨hy, hr⟩ := List.pairwise_cons.1 hl
    have ih := putG_ups h x r hr
    rw [putG_cons]
    split
    · rename_i h1
      refine List.pairwise_cons.2 ⟨fun z hz => ?_, ih⟩
      rcases (putG_mem h x r z).1 hz with e | e
      · rw [e]; exact h1
      · exact hy z e
    · split
      · exact hl
      · rename_i h1 h2
        have h3 := h.swap y x
        refine List.pairwise_cons.2 ⟨fun z hz => ?_, hl⟩
        rcases List.mem_cons.1 hz with e | e
        · rw [e]; omega
        · exact h.lt (b := y) (by omega) (by have := hy z e; omega)
/-- the document's: each put in its place -/
def putsG (o : α → α → Int) (l : List α) : List α := l.foldl (putG o) []
theorem putsG_from (h : VOrd.IsOrd o) : ∀ (l a : List α), Ups o a → Ups o (l.foldl (putG o) a) ∧ ∀ z, z ∈ l.foldl (putG o) a ↔ z ∈ a ∨ z ∈ l
  | [], a, ha => ⟨ha, fun z => by simp⟩
  | x :: l, a, ha => by
    obtain ⟨h1, h2⟩ := putsG_from h l (putG o a x) (putG_ups h x a ha)
    refine ⟨h1, fun z => ?_⟩
    rw [List.foldl_cons, h2, putG_mem h, List.mem_cons]
    constructor
    · rintro ((a | a) | a)
      · exact .inr (.inl a)
      · exact .inl a
      · exact .inr (.inr a)
    · rintro (a | a | a)
      · exact .inl (.inr a)
      · exact .inl (.inl a)
      · exact .inr a
end
section
variable {α : Type} {o : α → α → Int}
theorem compG_two (h : VOrd.IsOrd o) (y x : α) : compG o [y, x] = if o y x = 0 then [y] else [y, x] := by
  unfold compG
  split
  · rename_i h0
    rw [(h.zero y x).1 h0]; rfl
  · rfl
theorem compG_snoc (h : VOrd.IsOrd o) : ∀ (l : List α) (y x : α), compG o (l ++ [y, x]) = if o y x = 0 then compG o (l ++ [y]) else compG o (l ++ [y]) ++ [x]
  | [], y, x => by
    show compG o [y, x] = if o y x = 0 then compG o [y] else compG o [y] ++ [x]
    rw [compG_two h]; rfl
  | [a], y, x => by
    show compG o (a :: y :: [x]) = if o y x = 0 then compG o (a :: y :: []) else compG o (a :: y :: []) ++ [x]
    have e1 : compG o (a :: y :: [x]) = if o a y = 0 then compG o [y, x] else a :: compG o [y, x] := by rw [compG]
    have e2 : compG o (a :: y :: []) = if o a y = 0 then compG o [y] else a :: compG o [y] := by conv => lhs; rw [compG]
    rw [e1, e2, compG_two h]
    have e3 : compG o [y] = [y] := rfl
    rw [e3]
    by_cases h1 : o a y = 0 <;> by_cases h2 : o y x = 0 <;> simp [h1, h2]
  | a :: b :: l, y, x => by
    have ih := compG_snoc h (b :: l) y x
    have e1 : compG o (a :: b :: (l ++ [y, x])) = if o a b = 0 then compG o (b :: (l ++ [y, x])) else a :: compG o (b :: (l ++ [y, x])) := by rw [compG]
    have e2 : compG o (a :: b :: (l ++ [y])) = if o a b = 0 then compG o (b :: (l ++ [y])) else a :: compG o (b :: (l ++ [y])) := by rw [compG]
    show compG o (a :: b :: (l ++ [y, x])) = if o y x = 0 then compG o (a :: b :: (l ++ [y])) else compG o (a :: b :: (l ++ [y])) ++ [x]
    rw [e1, e2]
    have ih' : compG o (b :: (l ++ [y, x])) = if o y x = 0 then compG o (b :: (l ++ [y])) else compG o (b :: (l ++ [y])) ++ [x] := ih
    rw [ih']
    by_cases h1 : o a b = 0 <;> by_cases h2 : o y x = 0 <;> simp [h1, h2]
variable [Inhabited α] [DecidableEq α]
theorem compUp (h : VOrd.IsOrd o) (d : Array α) : ∀ m, m ≤ d.size → compactUpTo d m = compG o (d.toList.take m)
  | 0, _ => by simp [compactUpTo, compG]
  | 1, hm => by
    rw [compactUpTo_succ]
    have e : d.toList.take 1 = [d[0]!] := by
      rw [List.take_succ_eq_append_getElem (by simp; omega), getElem!_pos d 0 (by omega)]; simp
    rw [e]
    simp [compactUpTo, keeps, compG]
  | m + 2, hm => by
    have ih := compUp h d (m + 1) (by omega)
    have e1 : d.toList.take (m + 1) = d.toList.take m ++ [d[m]!] := by
      rw [List.take_succ_eq_append_getElem (by simp; omega), getElem!_pos d m (by omega)]; simp
    have e2 : d.toList.take (m + 2) = d.toList.take m ++ [d[m]!, d[m + 1]!] := by
      rw [List.take_succ_eq_append_getElem (by simp; omega), e1, getElem!_pos d (m + 1) (by omega)]; simp
    rw [compactUpTo_succ, ih, e2, compG_snoc h, ← e1]
    by_cases hx : d[m + 1]! = d[m]!
    · have hz : o d[m]! d[m + 1]! = 0 := (h.zero _ _).2 hx.symm
      rw [if_pos hz, keeps_neg (by omega) (by simpa using hx)]; simp
    · have hz : ¬ o d[m]! d[m + 1]! = 0 := fun e => hx ((h.zero _ _).1 e).symm
      rw [if_neg hz, keeps_pos (by simpa using hx)]; simp
theorem compAll (h : VOrd.IsOrd o) (d : Array α) : compactUpTo d d.size = compG o d.toList := by
  rw [compUp h d d.size (Nat.le_refl _), List.take_of_length_le (by simp)]
theorem compUp_len (d : Array α) (m : Nat) : (compactUpTo d m).length ≤ m := by
  unfold compactUpTo
  rw [List.length_map]
  exact Nat.le_trans (List.length_filter_le _ _) (by simp)
end

section
variable {α : Type} {o : α → α → Int}
/-- what rises, with all of some list's, is that list, each once, in order -/
theorem puts_of (h : VOrd.IsOrd o) {l s : List α} (hs : Ups o s) (hm : ∀ z, z ∈ s ↔ z ∈ l) : s = putsG o l := by
  obtain ⟨h1, h2⟩ := putsG_from h l [] List.Pairwise.nil
  exact ups_uniq h _ _ hs h1 fun z => (hm z).trans ((h2 z).trans (by simp)).symm
theorem putsG_ups (h : VOrd.IsOrd o) (l : List α) : Ups o (putsG o l) := (putsG_from h l [] List.Pairwise.nil).1
theorem putsG_mem (h : VOrd.IsOrd o) (l : List α) (z : α) : z ∈ putsG o l ↔ z ∈ l := ((putsG_from h l [] List.Pairwise.nil).2 z).trans (by simp)
theorem puts_self (h : VOrd.IsOrd o) {l : List α} (hl : Ups o l) : putsG o l = l := (puts_of h hl fun _ => Iff.rfl).symm
/-- what is sorted, then each once -/
theorem comp_puts (h : VOrd.IsOrd o) {s l : List α} (hs : s.Pairwise fun x y => o x y ≤ 0) (hm : ∀ z, z ∈ s ↔ z ∈ l) : compG o s = putsG o l :=
  puts_of h (compG_ups h s hs) fun z => (compG_mem h s z).trans (hm z)
theorem putsG_snoc (l : List α) (x : α) : putsG o (l ++ [x]) = putG o (putsG o l) x := by
  unfold putsG; rw [List.foldl_append]; rfl
/-- put at its place, found from the end -/
theorem put_there (h : VOrd.IsOrd o) {l : List α} {x : α} {k : Nat} (hkl : k ≤ l.length) (hl : Ups o l) (h1 : ∀ (i : Nat) (y : α), k ≤ i → l[i]? = some y → o x y < 0) (h2 : ∀ y, 0 < k → l[k - 1]? = some y → 0 < o x y) : l.take k ++ x :: l.drop k = putG o l x := by
  refine ups_uniq h _ _ ?_ (putG_ups h x l hl) fun z => ?_
  · refine List.pairwise_append.2 ⟨List.Pairwise.sublist (List.take_sublist _ _) hl, List.pairwise_cons.2 ⟨fun y hy => ?_, List.Pairwise.sublist (List.drop_sublist _ _) hl⟩, fun a ha b hb => ?_⟩
    · obtain ⟨i, hi⟩ := List.getElem?_of_mem hy
      rw [List.getElem?_drop] at hi
      exact h1 _ y (Nat.le_add_right _ _) hi
    · obtain ⟨i, hi, rfl⟩ := List.getElem_of_mem ha
      have hik : i < k ∧ i < l.length := by rw [List.length_take] at hi; omega
      rw [List.getElem_take]
      have hax : o l[i] x < 0 := by
        have hz : l[k - 1]? = some (l[k - 1]'(by omega)) := List.getElem?_eq_getElem (by omega)
        have h3 := h2 _ (by omega) hz
        have h4 := h.swap x (l[k - 1]'(by omega))
        by_cases e : i = k - 1
        · subst e; omega
        · have h5 := List.pairwise_iff_getElem.1 hl i (k - 1) hik.2 (by omega) (by omega)
          exact h.lt h5 (by omega)
      rcases List.mem_cons.1 hb with e | e
      · rw [e]; exact hax
      · obtain ⟨q, hq⟩ := List.getElem?_of_mem e
        rw [List.getElem?_drop] at hq
        have h6 := h1 _ b (Nat.le_add_right _ _) hq
        exact h.lt hax (by omega)
  · rw [putG_mem h, List.mem_append, List.mem_cons]
    have e : z ∈ l ↔ z ∈ l.take k ∨ z ∈ l.drop k := by
      conv => lhs; rw [← List.take_append_drop k l]
      exact List.mem_append
    rw [e]
    constructor
    · rintro (a | a | a)
      · exact .inr (.inl a)
      · exact .inl a
      · exact .inr (.inr a)
    · rintro (a | a | a)
      · exact .inr (.inl a)
      · exact .inl a
      · exact .inr (.inr a)
theorem put_old (h : VOrd.IsOrd o) {l : List α} {x : α} (hl : Ups o l) (hx : x ∈ l) : putG o l x = l := by
  refine ups_uniq h _ _ (putG_ups h x l hl) hl fun z => ?_
  rw [putG_mem h]
  constructor
  · rintro (e | e)
    · rw [e]; exact hx
    · exact e
  · exact .inr
end
end Go.Proofs.Ytofmfainhflmmaa

/-
  CONTRACT: slices.SortFunc at rows, by Compare.
-/
namespace Go.Proofs.Ytofmfainhflmmaa
open Go.RowKit Go.Shelf
open Go.Sort (SWO SortedIn PermIn grow Holds putRow mapBlock)
open VOrd (IsOrd)

/-- what lies in no block but g is kept -/
structure Kp (g : Nat) (W W' : World) : Prop where
  os : W'.os = W.os
  tape : W'.tape = W.tape
  output : W'.output = W.output
  size : W.heap.size ≤ W'.heap.size
  b : ∀ j, j ≠ g → j < W.heap.size → W'.heap[j]? = W.heap[j]?
theorem Kp.refl (g : Nat) (W : World) : Kp g W W := ⟨rfl, rfl, rfl, Nat.le_refl _, fun _ _ _ => rfl⟩
theorem Kp.trans {g : Nat} {a b c : World} (h : Kp g a b) (k : Kp g b c) : Kp g a c :=
  ⟨k.os.trans h.os, k.tape.trans h.tape, k.output.trans h.output, Nat.le_trans h.size k.size, fun j h1 h2 => (k.b j h1 (Nat.lt_of_lt_of_le h2 h.size)).trans (h.b j h1 h2)⟩
theorem Kp.of_below {g : Nat} {W W' : World} (h : Below W.heap.size W W') : Kp g W W' := ⟨h.os, h.tape, h.output, h.size, fun j _ hj => h.block j hj⟩
theorem Kp.below {g n0 : Nat} {W W' : World} (h : Kp g W W') (hn : n0 ≤ g) (hw : g < W.heap.size) : Below n0 W W' := ⟨h.os, h.tape, h.output, h.size, fun j hj => h.b j (by omega) (by omega)⟩
theorem Kp.cell {g : Nat} {W W' : World} (h : Kp g W W') {a : Addr} {v : Value} (hb : a.block ≠ g) (hc : W.cell? a = some v) : W'.cell? a = some v := by
  have hlt : a.block < W.heap.size := by
    unfold World.cell? at hc
    cases hb : W.heap[a.block]? with
    | none => rw [hb] at hc; cases hc
    | some o => exact (Array.getElem?_eq_some_iff.1 hb).1
  rw [World.cell?_of_block (w := W) (h.b _ hb hlt)]
  exact hc
/-- a row, none of it in block g -/
structure RwN (W : World) (g : Nat) (r : Rw) : Prop where
  ok : RwOk W W.heap.size r
  far : r.l ≠ [] → ∀ b o, r.A = some ⟨b, o, none⟩ → b ≠ g
theorem RwN.keep {W W' : World} {g : Nat} {r : Rw} (h : RwN W g r) (k : Kp g W W') : RwN W' g r := by
  refine ⟨⟨fun hl => ?_, h.ok.n, h.ok.c, h.ok.m, h.ok.z⟩, h.far⟩
  obtain ⟨b, o, e, hlt, hc⟩ := h.ok.s hl
  have hne := h.far hl b o e
  refine ⟨b, o, e, Nat.lt_of_lt_of_le hlt k.size, fun j v hv => ?_⟩
  obtain ⟨c0, c1, c2⟩ := hc j v hv
  exact ⟨k.cell hne c0, k.cell hne c1, k.cell hne c2⟩
theorem swKp {α : Type} [Inhabited α] {enc : α → Value} {w : World} {g n : Nat} {d : Array α} {os : Array Obj} : Kp g w (sortWorld enc w g 0 n d os) := by
  have hsz : (putRow enc (Sort.ahead w n) g 0 d).heap.size = w.heap.size := by simp [putRow, mapBlock, Sort.ahead]
  refine ⟨rfl, rfl, rfl, ?_, fun j h1 h2 => ?_⟩
  · show w.heap.size ≤ ((putRow enc (Sort.ahead w n) g 0 d).heap ++ os).size
    rw [Array.size_append, hsz]; omega
  · show ((putRow enc (Sort.ahead w n) g 0 d).heap ++ os)[j]? = _
    rw [Array.getElem?_append_left (by rw [hsz]; omega)]
    show (w.heap.modify g _)[j]? = _
    rw [Array.getElem?_modify, if_neg (fun e => h1 e.symm)]
theorem drewN_is (W : World) (q : Nat) : W.drewN q = { W with drawn := W.drawn + q } := rfl
/-- what makes memory alone, and draws, makes the world grow -/
theorem below_grow {W w' : World} (h : Below W.heap.size W w') (hd : W.drawn ≤ w'.drawn) : ∃ q os, w' = grow (W.drewN q) os := by
  refine ⟨w'.drawn - W.drawn, w'.heap.extract W.heap.size w'.heap.size, ?_⟩
  rw [drewN_is]
  have hheap : w'.heap = W.heap ++ w'.heap.extract W.heap.size w'.heap.size := by
    apply Array.ext_getElem?
    intro i
    by_cases hi : i < W.heap.size
    · rw [Array.getElem?_append_left hi]
      exact h.block i hi
    · rw [Array.getElem?_append_right (by omega), Array.getElem?_extract]
      by_cases h2 : i < w'.heap.size
      · rw [if_pos (by omega)]; congr 1; omega
      · rw [if_neg (by omega), Array.getElem?_eq_none (by omega)]
  have h1 := h.os
  have h2 := h.tape
  have h3 := h.output
  have h4 : W.drawn + (w'.drawn - W.drawn) = w'.drawn := by omega
  obtain ⟨hp, tp, dr, os, out⟩ := w'
  simp only at h1 h2 h3 h4 hheap
  unfold grow
  simp only [h4]
  rw [← hheap, h1, h2, h3]
/-- the program's Compare, in whatever world that has grown -/
theorem cmpR_grow (x y : Rw) (w : World) (hx : RwOk w w.heap.size x) (hy : RwOk w w.heap.size y) :
    Calls Try.prog 40 #[cellR x, cellR y] w fun e w' => e = .returned (.int .i64 (ordR x.l y.l)) ∧ ∃ q os', w' = grow (w.drewN q) os' :=
  (calls_drawn (cmpR_any x y w hx hy) (fun e w' ⟨h, _⟩ => by rw [h]; intro h; cases h)).mono fun _ _ ⟨⟨h1, h2⟩, h3⟩ => ⟨h1, below_grow h2 h3⟩
/-- rows that may be compared -/
abbrev RwS (w : World) (g : Nat) : Type := { x : Rw // RwN w g x }
theorem swoR0 : SWO (ltOf ordR) where
  irrefl x := by
    unfold ltOf
    rw [decide_eq_false_iff_not, (ordR_is.zero x x).2 rfl]; omega
  trans x y z h1 h2 := by
    unfold ltOf at *
    rw [decide_eq_true_eq] at *
    exact ordR_is.lt h1 (by omega)
  ntrans x y z h1 h2 := by
    unfold ltOf at *
    rw [decide_eq_false_iff_not] at *
    have a1 := ordR_is.swap x y
    have a2 := ordR_is.swap y z
    have a3 := ordR_is.swap x z
    have a4 := ordR_is.trans z y x (by omega) (by omega)
    omega
theorem swoR (w : World) (g : Nat) : SWO (ltOf fun x y : RwS w g => ordR x.1.l y.1.l) :=
  ⟨fun x => swoR0.irrefl x.1.l, fun x y z => swoR0.trans x.1.l y.1.l z.1.l, fun x y z => swoR0.ntrans x.1.l y.1.l z.1.l⟩
theorem sub_list {α : Type} {P : α → Prop} : ∀ {l : List α}, (∀ x ∈ l, P x) → ∃ ls : List { x : α // P x }, ls.map (·.1) = l
  | [], _ => ⟨[], rfl⟩
  | x :: r, h => by
    obtain ⟨ls, hl⟩ := sub_list (l := r) fun y hy => h y (List.mem_cons_of_mem _ hy)
    exact ⟨⟨x, h x (List.mem_cons_self ..)⟩ :: ls, by rw [List.map_cons, hl]⟩
/-- a block that reads as these, and may be written -/
def RowC (W : World) (g : Nat) (R : List Rw) : Prop := ∀ (j : Nat) (r : Rw), R[j]? = some r → W.cell? ⟨g, j, none⟩ = some (cellR r) ∧ W.frozen? ⟨g, j, none⟩ = false
/-- what the sort leaves -/
structure RSorted (w : World) (g : Nat) (R : List Rw) (w' : World) : Prop where
  ex : ∃ R' : List Rw, R'.Perm R ∧ R'.Pairwise (fun x y => ordR x.l y.l ≤ 0) ∧ RowC w' g R'
  kp : Kp g w w'

theorem sortR_any (B g cap : Nat) (R : List Rw) (w : World) (hr : Own1 46 cellR w B (.slice (some ⟨g, 0, none⟩) R.length cap) R) (hg : g < w.heap.size) (hok : ∀ r ∈ R, RwN w g r) (h0 : 0 < R.length) (hl : R.length ≤ 1000000000000) :
    Calls Try.prog 90 #[.slice (some ⟨g, 0, none⟩) R.length cap, .func (.func 40) #[] #[]] w fun e w' => e = .returned (.tuple #[]) ∧ RSorted w g R w' := by
  have inst : Inhabited (RwS w g) := ⟨⟨R[0], hok _ (List.getElem_mem h0)⟩⟩
  obtain ⟨ls, hls⟩ : ∃ ls : List (RwS w g), ls.map (·.1) = R := sub_list hok
  have hln : R.length = ls.length := by rw [← hls, List.length_map]
  have eg : ∀ args w, (callFunc 40 args).run Try.prog w = .ok (.enter 40 args) w := enters_of Try.func40 (by kernel_rfl) rfl
  have hr2 : w.ownsRow B 46 1 (.slice (some ⟨g, 0, none⟩) R.length cap) R.length (R.map cellR) := hr
  have hH : Holds (fun x : RwS w g => cellR x.1) w g 0 ls.toArray := fun j hj => by
    have hj2 : j < ls.length := by simpa using hj
    have hj3 : j < R.length := by omega
    rw [Nat.zero_add]
    refine ⟨?_, hr2.frozenAt j⟩
    rw [hr2.cellAt j (by omega), List.getElem?_map, ← hls, List.getElem?_map, List.getElem?_eq_getElem hj2, getElem!_pos ls.toArray j hj]
    rfl
  have hC : CmpLays1 Try.prog 40 #[] (fun x : RwS w g => cellR x.1) (fun x y : RwS w g => ordR x.1.l y.1.l) g 0 ls.toArray.size w := fun m os dk _ x y =>
    cmpR_grow x.1 y.1 _ (x.2.keep swKp).ok (y.2.keep swKp).ok
  have hcon := Any.slices_SortFunc Try.sortRow (fun x : RwS w g => cellR x.1) (fun _ => rfl) (fun x y : RwS w g => ordR x.1.l y.1.l) (swoR w g) 40 #[] g 0 cap ls.toArray w eg hC hH hg (by simp; omega)
  have hsa : ls.toArray.size = R.length := by simp; omega
  rw [hsa] at hcon
  refine (show Calls Try.prog 90 _ w _ from hcon).mono ?_
  rintro e w2 ⟨rfl, d', nn, os, hpm, hsd, rfl⟩
  have hsz : d'.size = ls.length := by have := hpm.1; simpa using this
  have hpr : d'.toList.Perm ls := by
    have h9 := hpm.2.2
    rw [← hsa, show ls.toArray.size = d'.size from hpm.1.symm, Array.extract_size] at h9
    have e1 : ls.toArray.extract 0 d'.size = ls.toArray := by rw [hsz]; simp
    rw [e1] at h9
    simpa using h9
  have hHd : Holds (fun x : RwS w g => cellR x.1) (sortWorld (fun x : RwS w g => cellR x.1) w g 0 nn d' os) g 0 d' := SW.holds (w0 := w) ⟨nn, os, rfl⟩ hg hH (by simpa using hpm.1)
  refine ⟨rfl, ⟨d'.toList.map (·.1), ?_, ?_, fun j r hx => ?_⟩, swKp⟩
  · rw [← hls]; exact hpr.map _
  · rw [List.pairwise_map, List.pairwise_iff_getElem]
    intro i j hi hj hij
    have hi2 : i < d'.size := by simpa using hi
    have hj2 : j < d'.size := by simpa using hj
    have hs := hsd i j (Nat.zero_le _) hij (by omega)
    rw [getElem!_pos d' i hi2, getElem!_pos d' j hj2] at hs
    unfold ltOf at hs
    have hs := of_decide_eq_false hs
    simp only [Array.getElem_toList]
    simp only at hs
    have := ordR_is.swap d'[i].1.l d'[j].1.l
    omega
  · rw [List.getElem?_map] at hx
    obtain ⟨x1, hx1, rfl⟩ := Option.map_eq_some_iff.1 hx
    have hj : j < d'.size := by have := (List.getElem?_eq_some_iff.1 hx1).1; simpa using this
    have e1 : d'[j]! = x1 := by
      rw [getElem!_pos d' j hj]
      have := (List.getElem?_eq_some_iff.1 hx1).2
      simpa using this
    have h1 := hHd j hj
    rw [Nat.zero_add, e1] at h1
    exact h1
end Go.Proofs.Ytofmfainhflmmaa

/-
  CONTRACTS: slices.CompactFunc at rows; rows.sorted.
-/
namespace Go.Proofs.Ytofmfainhflmmaa
open Go.RowKit Go.Shelf
open Go.Lib (keeps compactUpTo CompInv keeps_pos keeps_neg keeps_lt_one compactUpTo_all range_map_get)

theorem sliceR_from (A : Option Addr) (n c k : Nat) (hk : k ≤ n) (_hc : n ≤ c) (w : World) : (Instr.slice 32 (.slice A n c) (some (.int .i64 (k : Int))) none none).run Try.prog w = .ok (.slice (cut1 A c k) (n - k) (c - k)) w := by
  have hT : Try.prog.underlying 32 = some (.slice (Try.prog.elem 32)) := by kernel_rfl
  have hS : (Go.sizeOf (Try.prog.elem 32)).run Try.prog w = .ok 1 w := by kernel_rfl
  rw [run_slice_l (w := w) 32 A n c hT .i64 (k : Int) (by omega) (by omega), hS]
  simp [Result.andThen, sliced, cut1]
theorem sliceR_to (A : Option Addr) (n c k : Nat) (hk : k ≤ c) (w : World) : (Instr.slice 32 (.slice A n c) none (some (.int .i64 (k : Int))) none).run Try.prog w = .ok (.slice A k c) w := by
  have hT : Try.prog.underlying 32 = some (.slice (Try.prog.elem 32)) := by kernel_rfl
  have hS : (Go.sizeOf (Try.prog.elem 32)).run Try.prog w = .ok 1 w := by kernel_rfl
  rw [run_slice_h (w := w) 32 A n c hT .i64 (k : Int) (by omega) (by omega), hS]
  have := cut1_zero A c
  unfold cut1 at this
  simp [Result.andThen, sliced]
  simpa using this

set_option maxHeartbeats 400000 in
theorem same1_any (x y : Rw) (w : World) (hx : RwOk w w.heap.size x) (hy : RwOk w w.heap.size y) :
    Calls Try.prog 105 #[cellR x, cellR y] w fun e w' => e = .returned (.bool (decide (ordR x.l y.l = 0))) ∧ Below w.heap.size w w' := by
  have HC := Lib.hid (cmpR_any x y w hx hy)
  generalize hvx : cellR x = vx at HC ⊢
  generalize hvy : cellR y = vy at HC ⊢
  obtain ⟨n, hn⟩ : ∃ n, ordR x.l y.l = n := ⟨_, rfl⟩
  rw [hn] at HC ⊢
  clear hx hy hvx hvy hn
  go_enter Try.func105, Try.ntmps105
  go_wp2_with fail
  refine HC.out.mono ?_
  rintro e w2 ⟨rfl, hb2⟩
  go_wp2
  go_ret
  exact ⟨ret_bool (by rfl), hb2⟩

/-- a block whose rows, from a pool, hold this -/
def RowD (pool : List Rw) (W : World) (g : Nat) (d : Array (List Vl)) : Prop :=
  ∀ j, j < d.size → (∃ r, r ∈ pool ∧ W.cell? ⟨g, j, none⟩ = some (cellR r) ∧ r.l = d[j]!) ∧ W.frozen? ⟨g, j, none⟩ = false
theorem RowD.next {W W' : World} {pool : List Rw} {B g : Nat} {d : Array (List Vl)} (h : RowD pool W g d) (hb : Below B W W') (hg : g < B) : RowD pool W' g d := fun j hj => by
  obtain ⟨⟨r, h1, h2, h3⟩, h4⟩ := h j hj
  exact ⟨⟨r, h1, (hb.cell (p := ⟨g, j, none⟩) hg).trans h2, h3⟩, (hb.frozen (p := ⟨g, j, none⟩) hg).trans h4⟩
theorem getElem!_setD (d : Array (List Vl)) (k j : Nat) (x : List Vl) (hk : k < d.size) : (d.setIfInBounds k x)[j]! = if j = k then x else d[j]! := by
  by_cases e : j = k
  · subst e
    rw [if_pos rfl, getElem!_pos _ _ (by simpa using hk)]; simp
  · rw [if_neg e]
    by_cases hj : j < d.size
    · rw [getElem!_pos (d.setIfInBounds k x) j (by simpa using hj), getElem!_pos d j hj]
      rw [Array.getElem_setIfInBounds, if_neg (by omega)]
    · rw [getElem!_neg (d.setIfInBounds k x) j (by simpa using hj), getElem!_neg d j hj]
theorem RowD.set {W : World} {pool : List Rw} {g : Nat} {d : Array (List Vl)} (h : RowD pool W g d) {k : Nat} (hk : k < d.size) (x : Rw) (hx : x ∈ pool) :
    RowD pool (W.setCell ⟨g, k, none⟩ (.slice x.A x.l.length x.c)) g (d.setIfInBounds k x.l) := fun j hj => by
  have hj' : j < d.size := by simpa using hj
  obtain ⟨⟨r, h1, h2, h3⟩, h4⟩ := h j hj'
  obtain ⟨⟨q, k1, k2, k3⟩, k4⟩ := h k hk
  rw [getElem!_setD d k j x.l hk]
  refine ⟨?_, by simpa using h4⟩
  by_cases e : j = k
  · subst e
    rw [if_pos rfl]
    exact ⟨x, hx, by rw [World.cell?_setCell_same _ _ _ h2]; rfl, rfl⟩
  · rw [if_neg e]
    exact ⟨r, h1, by rw [World.cell?_setCell_other _ _ _ _ (by intro h; injection h with h1 h2; omega)]; exact h2, h3⟩
theorem setCells_other {b : Nat} : ∀ (vs : List Value) (o : Nat) (w : World) (j : Nat), j ≠ b → (w.setCells b o vs).heap[j]? = w.heap[j]?
  | [], _, _, _, _ => rfl
  | v :: vs, o, w, j, h => (setCells_other vs (o + 1) (w.setCell ⟨b, o, none⟩ v) j h).trans (Below.heap_setCell w ⟨b, o, none⟩ v j h)
theorem kp_set {g : Nat} (w : World) (k : Nat) (u : Value) : Kp g w (w.setCell ⟨g, k, none⟩ u) := ⟨rfl, rfl, rfl, by simp [World.setCell], fun j hj _ => Below.heap_setCell w ⟨g, k, none⟩ u j hj⟩
/-- clear of a rest -/
theorem clearR_run (w : World) (b o n c : Nat) (hn : 0 < n) (hc : ∀ j, j < n → (w.cell? ⟨b, o + j, none⟩).isSome = true) (hf : ∀ j, j < n → w.frozen? ⟨b, o + j, none⟩ = false) :
    ∃ vs : List Value, vs.length = n ∧ ∀ ty, (Builtin.clear_ #[32] ty #[.slice (some ⟨b, o, none⟩) n c]).run Try.prog w = .ok (.tuple #[]) (w.setCells b o vs) := by
  have ht : Try.prog.underlying 32 = some (.slice 46) := Try.underlying32
  have hv : ∀ w, (zeroValue 46).run Try.prog w = .ok (.slice none 0 0) w := fun w => by kernel_rfl
  refine ⟨(Builtin.zeroCells (Value.slice none 0 0).cells n).toList, ?_, fun ty => ?_⟩
  · simp [Builtin.zeroCells, Value.cells]
  have h1 : ∀ v ∈ (Builtin.zeroCells (Value.slice none 0 0).cells n).toList, v.oneCell' = true := by
    intro v hv
    simp only [Builtin.zeroCells, Array.toList_map, List.mem_map] at hv
    obtain ⟨i, _, rfl⟩ := hv
    have hm : i % (Value.slice none 0 0).cells.size < 1 := Nat.mod_lt _ (by decide)
    generalize i % (Value.slice none 0 0).cells.size = q at hm
    obtain rfl : q = 0 := by omega
    rfl
  have hlen : (Builtin.zeroCells (Value.slice none 0 0).cells n).toList.length = n := by simp [Builtin.zeroCells, Value.cells]
  have hst := run_storeCells_cells (P := Try.prog) b o (Builtin.zeroCells (Value.slice none 0 0).cells n).toList 0 w (by intro j hj; rw [hlen] at hj; rw [Nat.add_zero]; exact hc j hj) (by intro j hj; rw [hlen] at hj; rw [Nat.add_zero]; exact hf j hj) h1
  simp only [Nat.add_zero] at hst
  obtain ⟨m, rfl⟩ : ∃ m, n = m + 1 := ⟨n - 1, by omega⟩
  simp [Builtin.clear_, run_underlying ht, hv, hst]

/-- what Compact leaves -/
def CompEnd (g cap : Nat) (pool : List Rw) (d : Array (List Vl)) (w : World) (e : Ending) (w' : World) : Prop :=
  ∃ R : List Rw, txR R = compG ordR d.toList ∧ (∀ r ∈ R, r ∈ pool) ∧ e = .returned (.slice (some ⟨g, 0, none⟩) R.length cap) ∧ RowC w' g R ∧ Kp g w w' ∧ g + 1 ≤ w'.heap.size
theorem pick_rows {W : World} {pool : List Rw} {g : Nat} {d : Array (List Vl)} (h : RowD pool W g d) : ∀ (n : Nat), n ≤ d.size → ∃ R : List Rw, R.length = n ∧ (∀ r ∈ R, r ∈ pool) ∧ ∀ j (_ : j < n), ∃ r, R[j]? = some r ∧ (W.cell? ⟨g, j, none⟩ = some (cellR r) ∧ W.frozen? ⟨g, j, none⟩ = false) ∧ r.l = d[j]!
  | 0, _ => ⟨[], rfl, (fun r hr => by cases hr), fun j hj => absurd hj (Nat.not_lt_zero _)⟩
  | n + 1, hn => by
    obtain ⟨R, h1, h2, h3⟩ := pick_rows h n (by omega)
    obtain ⟨⟨r, k1, k2, k3⟩, k4⟩ := h n (by omega)
    refine ⟨R ++ [r], by simp [h1], fun x hx => ?_, fun j hj => ?_⟩
    · rcases List.mem_append.1 hx with e | e
      · exact h2 x e
      · rw [List.mem_singleton] at e
        rw [e]; exact k1
    · by_cases e : j = n
      · subst e
        exact ⟨r, by rw [List.getElem?_append_right (by omega), h1]; simp, ⟨k2, k4⟩, k3⟩
      · obtain ⟨q, a1, a2, a3⟩ := h3 j (by omega)
        exact ⟨q, by rw [List.getElem?_append_left (by omega)]; exact a1, a2, a3⟩
theorem compEnd_of {g cap n : Nat} {pool : List Rw} {d : Array (List Vl)} {w w' : World} {R : List Rw} {c : List (List Vl)} (hc : c = compG ordR d.toList) (hn : c.length = n) (hR : R.length = n) (hp : ∀ r ∈ R, r ∈ pool)
    (hx : ∀ j (_ : j < n), ∃ r, R[j]? = some r ∧ (w'.cell? ⟨g, j, none⟩ = some (cellR r) ∧ w'.frozen? ⟨g, j, none⟩ = false) ∧ c[j]? = some r.l) (hk : Kp g w w') (hg : g + 1 ≤ w'.heap.size) :
    CompEnd g cap pool d w (.returned (.slice (some ⟨g, 0, none⟩) n cap)) w' := by
  refine ⟨R, ?_, hp, by rw [hR], fun j r hr => ?_, hk, hg⟩
  · rw [← hc]
    apply List.ext_getElem?
    intro j
    unfold txR
    rw [List.getElem?_map]
    by_cases hj : j < n
    · obtain ⟨r, h1, _, h3⟩ := hx j hj
      rw [h1, h3]; rfl
    · rw [List.getElem?_eq_none (by omega), List.getElem?_eq_none (by omega)]; rfl
  · have hj : j < n := by have := (List.getElem?_eq_some_iff.1 hr).1; omega
    obtain ⟨q, h1, h2, _⟩ := hx j hj
    rw [hr] at h1
    rw [Option.some.inj h1]; exact h2
theorem compEnd_all {g cap : Nat} {pool : List Rw} {d : Array (List Vl)} {w wr : World} [DecidableEq (List Vl)] (hH : RowD pool wr g d) (hb : Kp g w wr) (hg : g < wr.heap.size) (hall : ∀ j, j < d.size → keeps d j = true) :
    CompEnd g cap pool d w (.returned (.slice (some ⟨g, 0, none⟩) d.size cap)) wr := by
  have e : d.toList = compG ordR d.toList := by rw [← compAll ordR_is d, compactUpTo_all d _ hall, range_map_get]
  obtain ⟨R, h1, h2, h3⟩ := pick_rows hH d.size (Nat.le_refl _)
  refine compEnd_of (c := d.toList) e (by simp) h1 h2 (fun j hj => ?_) hb hg
  obtain ⟨r, a1, a2, a3⟩ := h3 j hj
  refine ⟨r, a1, a2, ?_⟩
  rw [a3, getElem!_pos d j hj, List.getElem?_eq_getElem (by simpa using hj)]; simp
theorem compEnd_cut {g cap : Nat} {pool : List Rw} {d dk : Array (List Vl)} {w wr : World} [DecidableEq (List Vl)] {k : Nat} (vs : List Value) (hI : CompInv d d.size k dk) (hH : RowD pool wr g dk) (hb : Kp g w wr) (hg : g < wr.heap.size) :
    CompEnd g cap pool d w (.returned (.slice (some ⟨g, 0, none⟩) k cap)) (wr.setCells g k vs) := by
  have hk : k ≤ dk.size := by have := hI.lt; have := hI.size; omega
  obtain ⟨R, h1, h2, h3⟩ := pick_rows hH k hk
  refine compEnd_of (c := compactUpTo d d.size) (compAll ordR_is d) hI.len h1 h2 (fun j hj => ?_) ?_ ?_
  · obtain ⟨r, a1, a2, a3⟩ := h3 j hj
    refine ⟨r, a1, ?_, ?_⟩
    · rw [World.cell?_setCells_out g vs _ _ _ fun _ _ => .inl (by show j < _; omega), World.frozen?_setCells]
      exact a2
    · rw [a3]; exact hI.low j hj
  · have hbb := below_setCells (B := g) (b := g) (Nat.le_refl _) vs k wr (Below.refl g wr)
    refine hb.trans ⟨hbb.os, hbb.tape, hbb.output, hbb.size, fun j hj _ => ?_⟩
    exact (setCells_other vs k wr j hj)
  · have := (below_setCells (B := 0) (b := g) (Nat.zero_le _) vs k wr (Below.refl 0 wr)).size
    omega

/-- what the comparing regions read -/
def CsA (wr : World) (p q : Addr) (vx vy : Value) (W : World) : Prop := W.cell? p = some vx ∧ W.cell? q = some vy ∧ (p.block < wr.heap.size ∧ q.block < wr.heap.size) ∧ Below wr.heap.size wr W
theorem CsA.next {wr : World} {p q : Addr} {vx vy : Value} {W W' : World} (h : CsA wr p q vx vy W) (hb : Below W.heap.size W W') : CsA wr p q vx vy W' :=
  ⟨(hb.cell (Nat.lt_of_lt_of_le h.2.2.1.1 h.2.2.2.size)).trans h.1, (hb.cell (Nat.lt_of_lt_of_le h.2.2.1.2 h.2.2.2.size)).trans h.2.1, h.2.2.1, h.2.2.2.trans (hb.mono h.2.2.2.size)⟩
theorem CsA.start {wr : World} {p q : Addr} {vx vy : Value} (h1 : wr.cell? p = some vx) (h2 : wr.cell? q = some vy) (h3 : p.block < wr.heap.size) (h4 : q.block < wr.heap.size) : CsA wr p q vx vy wr.drew :=
  ⟨h1, h2, ⟨h3, h4⟩, (Below.refl _ _).drew⟩

open Classical in
set_option maxRecDepth 100000 in
set_option maxHeartbeats 2000000 in
theorem compR_any (g cap : Nat) (pool : List Rw) (d : Array (List Vl)) (w : World) (hg : g < w.heap.size) (hH : RowD pool w g d) (hok : ∀ r ∈ pool, RwN w g r) (hsz : d.size ≤ 1000000000000) (hcap : d.size ≤ cap) :
    Calls Try.prog 104 #[.slice (some ⟨g, 0, none⟩) d.size cap, .func (.func 105) #[] #[]] w (CompEnd g cap pool d w) := by
  by_cases h2 : d.size < 2
  · have HE : Hid (CompEnd g cap pool d w (.returned (.slice (some ⟨g, 0, none⟩) d.size cap)) w) := compEnd_all hH (Kp.refl _ _) hg fun j hj => keeps_lt_one d j (by omega)
    have h2i : (d.size : Int) < 2 := by omega
    clear hH
    go_enter Try.func104, Try.ntmps104
    go_wp2
    go_ret
    exact HE.out
  · have h2i : ¬ (d.size : Int) < 2 := by omega
    have HH := Lib.hid hH
    have HOK := Lib.hid hok
    clear hH hok
    go_enter Try.func104, Try.ntmps104
    go_wp2
    go_loopg [5] d.size (fun g' s3 wr => ∃ k : Nat, 1 ≤ k ∧ k ≤ d.size ∧ d.size - k ≤ g' ∧ s3 = .int .i64 k ∧ Hid (Below w.heap.size w wr) ∧ Hid (∀ j, j < k → keeps d j = true))
    case atStart => exact ⟨1, Nat.le_refl _, by omega, by omega, rfl, Below.refl _ _, keeps_lt_one d⟩
    case round =>
      obtain ⟨k, hk1, hk, hg', rfl, HB, A⟩ := hrel
      by_cases hlt : k < d.size
      · have hlti : (k : Int) < (d.size : Int) := by omega
        obtain ⟨⟨x, hxp, hxc, hxe⟩, _⟩ := (HH.out.next HB.out hg) k hlt
        obtain ⟨⟨y, hyp, hyc, hye⟩, _⟩ := (HH.out.next HB.out hg) (k - 1) (by omega)
        have HXY : Hid (d[k]! = x.l ∧ d[k - 1]! = y.l) := ⟨hxe.symm, hye.symm⟩
        have hw1 : IntKind.i64.wrap ((k : Int) - 1) = ((k - 1 : Nat) : Int) := by
          rw [show ((k - 1 : Nat) : Int) = (k : Int) - 1 from by omega]; exact IntWalk.i64_in _ (by omega)
        have hgw : g < wr.heap.size := Nat.lt_of_lt_of_le hg HB.out.size
        have hk1lt : k - 1 < d.size := by omega
        have HC := Lib.hid (fun W (hb : Below wr.heap.size wr W) => same1_any x y W ((HOK.out x hxp).keep ((Kp.of_below HB.out).trans (Kp.of_below hb))).ok ((HOK.out y hyp).keep ((Kp.of_below HB.out).trans (Kp.of_below hb))).ok)
        obtain ⟨A1, c1, l1⟩ := x
        obtain ⟨A2, c2, l2⟩ := y
        unfold cellR at hxc hyc HC
        clear hxe hye
        have hxi : (decide (ordR l1 l2 = 0)) = decide (ordR l1 l2 = 0) := rfl
        obtain ⟨q, hq⟩ : ∃ q, decide (ordR l1 l2 = 0) = q := ⟨_, rfl⟩
        have HQ := Lib.hid hq
        rw [hq] at HC
        have HSD1 := Lib.hid (CsA.start hxc hyc hgw hgw)
        obtain ⟨wd1, hwd1⟩ : ∃ wd, wr.drew = wd := ⟨_, rfl⟩
        rw [hwd1] at HSD1
        clear hxc hyc hq hxi
        go_wp2_with fail
        refine wp_region_held_drew (S := CsA wr ⟨g, k, none⟩ ⟨g, k - 1, none⟩ (.slice A1 l1.length c1) (.slice A2 l2.length c2)) (by kernel_rfl) (by rw [hwd1]; exact HSD1.out) (fun hHeld => ?_)
        rw [hwd1] at hHeld ⊢
        clear hwd1
        refine takeV 0 (some 18) ((.func (.func 105) #[] #[])) rfl rfl (by kernel_rfl) (by kernel_rfl) (by kernel_rfl) (fun _ _ _ h => h) (by rfl) (by (intro _w _hSw; (try dsimp only at _hSw); go_simp)) (by assumption) ?_
        simp only [Act.put, List.setIfInBounds_toArray, List.set_cons_zero, List.set_cons_succ]
        refine takeV 1 (some 19) ((.slice (some ⟨g, 0, none⟩) d.size cap)) rfl rfl (by kernel_rfl) (by kernel_rfl) (by kernel_rfl) (fun _ _ _ h => h) (by rfl) (by (intro _w _hSw; (try dsimp only at _hSw); go_simp)) (by assumption) ?_
        simp only [Act.put, List.setIfInBounds_toArray, List.set_cons_zero, List.set_cons_succ]
        refine takeV 2 (some 20) ((.int .i64 k)) rfl rfl (by kernel_rfl) (by kernel_rfl) (by kernel_rfl) (fun _ _ _ h => h) (by rfl) (by (intro _w _hSw; (try dsimp only at _hSw); go_simp)) (by assumption) ?_
        simp only [Act.put, List.setIfInBounds_toArray, List.set_cons_zero, List.set_cons_succ]
        refine takeV 3 (some 21) ((.pointer (some ⟨g, k, none⟩))) rfl rfl (by kernel_rfl) (by kernel_rfl) (by kernel_rfl) (fun _ _ _ h => h) (by rfl) (by (intro _w _hSw; (try dsimp only at _hSw); go_simp)) (by assumption) ?_
        simp only [Act.put, List.setIfInBounds_toArray, List.set_cons_zero, List.set_cons_succ]
        refine takeV 4 (some 22) ((.slice A1 l1.length c1)) rfl rfl (by kernel_rfl) (by kernel_rfl) (by kernel_rfl) (fun _ _ _ h => h) (by rfl) (by (intro _w hSw; have k0 := hSw.1; clear hSw; go_simp)) (by assumption) ?_
        simp only [Act.put, List.setIfInBounds_toArray, List.set_cons_zero, List.set_cons_succ]
        refine takeV 5 (some 23) ((.slice (some ⟨g, 0, none⟩) d.size cap)) rfl rfl (by kernel_rfl) (by kernel_rfl) (by kernel_rfl) (fun _ _ _ h => h) (by rfl) (by (intro _w _hSw; (try dsimp only at _hSw); go_simp)) (by assumption) ?_
        simp only [Act.put, List.setIfInBounds_toArray, List.set_cons_zero, List.set_cons_succ]
        refine takeV 6 (some 24) ((.int .i64 k)) rfl rfl (by kernel_rfl) (by kernel_rfl) (by kernel_rfl) (fun _ _ _ h => h) (by rfl) (by (intro _w _hSw; (try dsimp only at _hSw); go_simp)) (by assumption) ?_
        simp only [Act.put, List.setIfInBounds_toArray, List.set_cons_zero, List.set_cons_succ]
        refine takeV 7 (some 25) ((.int .i64 ((k - 1 : Nat) : Int))) rfl rfl (by kernel_rfl) (by kernel_rfl) (by kernel_rfl) (fun _ _ _ h => h) (by rfl) (by (intro _w _hSw; (try dsimp only at _hSw); go_simp)) (by assumption) ?_
        simp only [Act.put, List.setIfInBounds_toArray, List.set_cons_zero, List.set_cons_succ]
        refine takeV 8 (some 26) ((.pointer (some ⟨g, k - 1, none⟩))) rfl rfl (by kernel_rfl) (by kernel_rfl) (by kernel_rfl) (fun _ _ _ h => h) (by rfl) (by (intro _w _hSw; (try dsimp only at _hSw); go_simp)) (by assumption) ?_
        simp only [Act.put, List.setIfInBounds_toArray, List.set_cons_zero, List.set_cons_succ]
        refine takeV 9 (some 27) ((.slice A2 l2.length c2)) rfl rfl (by kernel_rfl) (by kernel_rfl) (by kernel_rfl) (fun _ _ _ h => h) (by rfl) (by (intro _w hSw; have k0 := hSw.2.1; clear hSw; go_simp)) (by assumption) ?_
        simp only [Act.put, List.setIfInBounds_toArray, List.set_cons_zero, List.set_cons_succ]
        refine callV 10 rfl (by kernel_rfl) (by rfl) (fun K hK => ?_)
        go_simp
        refine (HC.out _ hHeld.2.2.2).mono ?_
        rintro e w3 ⟨rfl, hb3⟩
        have HB3 := Lib.hid ((hHeld.next hb3).2.2.2)
        refine hK.out _ _ (hHeld.next hb3) (fun _ => ?_)
        clear hK K hHeld hb3
        try simp only [Act.put, List.setIfInBounds_toArray, List.set_cons_zero, List.set_cons_succ]
        refine wpAnyH_done (by kernel_rfl) ?_ _
        clear HSD1
        cases q with
        | false =>
          have HK : Hid (keeps d k = true) := keeps_pos (by rw [HXY.out.1, HXY.out.2]; exact fun e => of_decide_eq_false HQ.out ((ordR_is.zero _ _).2 e))
          go_wp2
          go_roundg (d.size - (k + 1))
          case measure => omega
          case rel =>
            refine ⟨k + 1, by omega, by omega, Nat.le_refl _, by go_num, HB.out.trans (HB3.out.mono HB.out.size), fun j hj => ?_⟩
            by_cases e : j = k
            · subst e; exact HK.out
            · exact A.out j (by omega)
        | true =>
          have HK : Hid (keeps d k = false) := keeps_neg (by omega) (by rw [HXY.out.1, HXY.out.2]; exact (ordR_is.zero _ _).1 (of_decide_eq_true HQ.out))
          have HW2 : Hid (RowD pool w3 g d ∧ Kp g w w3 ∧ g < w3.heap.size) := ⟨(HH.out.next HB.out hg).next HB3.out hgw, (Kp.of_below HB.out).trans (Kp.of_below HB3.out), Nat.lt_of_lt_of_le hgw HB3.out.size⟩
          have hsl : ∀ w, (Instr.slice 32 (.slice (some ⟨g, 0, none⟩) d.size cap) (some (.int .i64 (k : Int))) none none).run Try.prog w = .ok (.slice (some ⟨g, k, none⟩) (d.size - k) (cap - k)) w := fun w => by
            rw [sliceR_from _ _ _ _ hk hcap, cut1, if_neg (by omega)]
            show Result.ok (Value.slice (some (Addr.add ⟨g, 0, none⟩ (k * 1))) _ _) _ = _
            rw [addI, Nat.mul_one, Nat.zero_add]
          clear hgw hw1 hk1lt HC HB HB3 hlti
          go_wp2
          go_loopg [5, 7] d.size (fun g' s3 s5 wr => ∃ (kk k2 : Nat) (dk : Array (List Vl)), s3 = .int .i64 kk ∧ s5 = .int .i64 k2 ∧ 1 ≤ k2 ∧ k + k2 ≤ d.size ∧ d.size - (k + k2) ≤ g' ∧ Hid (RowD pool wr g dk) ∧ Hid (CompInv d (k + k2) kk dk) ∧ Hid (Kp g w wr) ∧ g < wr.heap.size)
          case atStart => exact ⟨k, 1, d, rfl, rfl, Nat.le_refl _, by omega, by omega, HW2.out.1, CompInv.start A.out HK.out, HW2.out.2.1, HW2.out.2.2⟩
          case round =>
            obtain ⟨kk, k2, dk, rfl, rfl, h1, hle, hg2, RK, IK, BK, hgr⟩ := hrel
            have hkk := IK.out.lt
            have hds := IK.out.size
            by_cases hlt2 : k + k2 < d.size
            · obtain ⟨⟨x2, hxp2, hxc2, hxe2⟩, _⟩ := RK.out (k + k2) (by omega)
              obtain ⟨⟨y2, hyp2, hyc2, hye2⟩, _⟩ := RK.out (k + k2 - 1) (by omega)
              obtain ⟨⟨o2, hop2, hoc2, hoe2⟩, hof2⟩ := RK.out kk (by omega)
              rw [IK.out.high (k + k2) (by omega)] at hxe2
              rw [IK.out.high (k + k2 - 1) (by omega)] at hye2
              rw [show k + k2 - 1 = k + (k2 - 1) from by omega] at hyc2
              have HXY2 : Hid (d[k + k2]! = x2.l ∧ d[k + k2 - 1]! = y2.l) := ⟨hxe2.symm, hye2.symm⟩
              have hw2 : IntKind.i64.wrap ((k2 : Int) - 1) = ((k2 - 1 : Nat) : Int) := by
                rw [show ((k2 - 1 : Nat) : Int) = (k2 : Int) - 1 from by omega]; exact IntWalk.i64_in _ (by omega)
              have HDS := Lib.hid hds
              have HXP := Lib.hid hxp2
              have hlt3 : k2 < d.size - k := by omega
              have hlt3i : (k2 : Int) < (d.size : Int) - (k : Int) := by omega
              have hlt4 : k2 - 1 < d.size - k := by omega
              have HC := Lib.hid (fun W (hb : Below wr.heap.size wr W) => same1_any x2 y2 W ((HOK.out x2 hxp2).keep (BK.out.trans (Kp.of_below hb))).ok ((HOK.out y2 hyp2).keep (BK.out.trans (Kp.of_below hb))).ok)
              have HXX : Hid (∃ x, x = x2) := ⟨x2, rfl⟩
              obtain ⟨xr, hxr⟩ := HXX.out
              obtain ⟨A1, c1, l1⟩ := x2
              obtain ⟨A2, c2, l2⟩ := y2
              obtain ⟨A3, c3, l3⟩ := o2
              unfold cellR at hxc2 hyc2 hoc2 HC
              have HOC := Lib.hid (show wr.cell? ⟨g, kk, none⟩ = some (.slice A3 l3.length c3) ∧ wr.frozen? ⟨g, kk, none⟩ = false from ⟨hoc2, hof2⟩)
              have HXC := Lib.hid hxc2
              obtain ⟨q, hq⟩ : ∃ q, decide (ordR l1 l2 = 0) = q := ⟨_, rfl⟩
              have HQ := Lib.hid hq
              rw [hq] at HC
              have HSD1 := Lib.hid (CsA.start hxc2 hyc2 hgr hgr)
              obtain ⟨wd1, hwd1⟩ : ∃ wd, wr.drew = wd := ⟨_, rfl⟩
              rw [hwd1] at HSD1
              clear hxc2 hyc2 hq hxe2 hye2 hoe2 hds hxp2 hyp2 hop2 HXX hoc2 hof2
              go_wp2_with fail
              refine wp_region_held_drew (S := CsA wr ⟨g, k + k2, none⟩ ⟨g, k + (k2 - 1), none⟩ (.slice A1 l1.length c1) (.slice A2 l2.length c2)) (by kernel_rfl) (by rw [hwd1]; exact HSD1.out) (fun hHeld => ?_)
              rw [hwd1] at hHeld ⊢
              clear hwd1
              refine takeV 0 (some 38) ((.func (.func 105) #[] #[])) rfl rfl (by kernel_rfl) (by kernel_rfl) (by kernel_rfl) (fun _ _ _ h => h) (by rfl) (by (intro _w _hSw; (try dsimp only at _hSw); go_simp)) (by assumption) ?_
              simp only [Act.put, List.setIfInBounds_toArray, List.set_cons_zero, List.set_cons_succ]
              refine takeV 1 (some 39) ((.slice (some ⟨g, k, none⟩) (d.size - k) (cap - k))) rfl rfl (by kernel_rfl) (by kernel_rfl) (by kernel_rfl) (fun _ _ _ h => h) (by rfl) (by (intro _w _hSw; (try dsimp only at _hSw); go_simp)) (by assumption) ?_
              simp only [Act.put, List.setIfInBounds_toArray, List.set_cons_zero, List.set_cons_succ]
              refine takeV 2 (some 40) ((.int .i64 k2)) rfl rfl (by kernel_rfl) (by kernel_rfl) (by kernel_rfl) (fun _ _ _ h => h) (by rfl) (by (intro _w _hSw; (try dsimp only at _hSw); go_simp)) (by assumption) ?_
              simp only [Act.put, List.setIfInBounds_toArray, List.set_cons_zero, List.set_cons_succ]
              refine takeV 3 (some 41) ((.pointer (some ⟨g, k + k2, none⟩))) rfl rfl (by kernel_rfl) (by kernel_rfl) (by kernel_rfl) (fun _ _ _ h => h) (by rfl) (by (intro _w _hSw; (try dsimp only at _hSw); go_simp)) (by assumption) ?_
              simp only [Act.put, List.setIfInBounds_toArray, List.set_cons_zero, List.set_cons_succ]
              refine takeV 4 (some 42) ((.slice A1 l1.length c1)) rfl rfl (by kernel_rfl) (by kernel_rfl) (by kernel_rfl) (fun _ _ _ h => h) (by rfl) (by (intro _w hSw; have k0 := hSw.1; clear hSw; go_simp)) (by assumption) ?_
              simp only [Act.put, List.setIfInBounds_toArray, List.set_cons_zero, List.set_cons_succ]
              refine takeV 5 (some 43) ((.slice (some ⟨g, k, none⟩) (d.size - k) (cap - k))) rfl rfl (by kernel_rfl) (by kernel_rfl) (by kernel_rfl) (fun _ _ _ h => h) (by rfl) (by (intro _w _hSw; (try dsimp only at _hSw); go_simp)) (by assumption) ?_
              simp only [Act.put, List.setIfInBounds_toArray, List.set_cons_zero, List.set_cons_succ]
              refine takeV 6 (some 44) ((.int .i64 k2)) rfl rfl (by kernel_rfl) (by kernel_rfl) (by kernel_rfl) (fun _ _ _ h => h) (by rfl) (by (intro _w _hSw; (try dsimp only at _hSw); go_simp)) (by assumption) ?_
              simp only [Act.put, List.setIfInBounds_toArray, List.set_cons_zero, List.set_cons_succ]
              refine takeV 7 (some 45) ((.int .i64 ((k2 - 1 : Nat) : Int))) rfl rfl (by kernel_rfl) (by kernel_rfl) (by kernel_rfl) (fun _ _ _ h => h) (by rfl) (by (intro _w _hSw; (try dsimp only at _hSw); go_simp)) (by assumption) ?_
              simp only [Act.put, List.setIfInBounds_toArray, List.set_cons_zero, List.set_cons_succ]
              refine takeV 8 (some 46) ((.pointer (some ⟨g, k + (k2 - 1), none⟩))) rfl rfl (by kernel_rfl) (by kernel_rfl) (by kernel_rfl) (fun _ _ _ h => h) (by rfl) (by (intro _w _hSw; (try dsimp only at _hSw); go_simp)) (by assumption) ?_
              simp only [Act.put, List.setIfInBounds_toArray, List.set_cons_zero, List.set_cons_succ]
              refine takeV 9 (some 47) ((.slice A2 l2.length c2)) rfl rfl (by kernel_rfl) (by kernel_rfl) (by kernel_rfl) (fun _ _ _ h => h) (by rfl) (by (intro _w hSw; have k0 := hSw.2.1; clear hSw; go_simp)) (by assumption) ?_
              simp only [Act.put, List.setIfInBounds_toArray, List.set_cons_zero, List.set_cons_succ]
              refine callV 10 rfl (by kernel_rfl) (by rfl) (fun K hK => ?_)
              go_simp
              refine (HC.out _ hHeld.2.2.2).mono ?_
              rintro e w4 ⟨rfl, hb4⟩
              have HB4 := Lib.hid ((hHeld.next hb4).2.2.2)
              refine hK.out _ _ (hHeld.next hb4) (fun _ => ?_)
              clear hK K hHeld hb4
              try simp only [Act.put, List.setIfInBounds_toArray, List.set_cons_zero, List.set_cons_succ]
              refine takeV 11 (some 49) ((.bool (!q))) rfl rfl (by kernel_rfl) (by kernel_rfl) (by kernel_rfl) (fun _ _ _ h => h) (by rfl) (by (intro _w _hSw; (try dsimp only at _hSw); go_simp)) (by assumption) ?_
              simp only [Act.put, List.setIfInBounds_toArray, List.set_cons_zero, List.set_cons_succ]
              refine wpAnyH_done (by kernel_rfl) ?_ _
              clear HSD1
              have HW4 : Hid (RowD pool w4 g dk ∧ Kp g w w4 ∧ g < w4.heap.size) := ⟨RK.out.next HB4.out hgr, BK.out.trans (Kp.of_below HB4.out), Nat.lt_of_lt_of_le hgr HB4.out.size⟩
              cases q with
              | true =>
                have HN : Hid (keeps d (k + k2) = false) := keeps_neg (by omega) (by rw [HXY2.out.1, HXY2.out.2]; exact (ordR_is.zero _ _).1 (of_decide_eq_true HQ.out))
                go_wp2
                go_roundg (d.size - (k + (k2 + 1)))
                case measure => omega
                case rel => exact ⟨kk, k2 + 1, dk, rfl, by go_num, by omega, by omega, Nat.le_refl _, HW4.out.1, IK.out.skip HN.out, HW4.out.2.1, HW4.out.2.2⟩
              | false =>
                have HN : Hid (keeps d (k + k2) = true) := keeps_pos (by rw [HXY2.out.1, HXY2.out.2]; exact fun e => of_decide_eq_false HQ.out ((ordR_is.zero _ _).2 e))
                have s0 := (HB4.out.cell (p := ⟨g, k + k2, none⟩) hgr).trans HXC.out
                have s1 := (HB4.out.cell (p := ⟨g, kk, none⟩) hgr).trans HOC.out.1
                have s2 := (HB4.out.frozen (p := ⟨g, kk, none⟩) hgr).trans HOC.out.2
                have hkds : kk < d.size := by omega
                go_wp2
                go_roundg (d.size - (k + (k2 + 1)))
                case measure => omega
                case rel => exact ⟨kk + 1, k2 + 1, dk.setIfInBounds kk l1, by go_num, by go_num, by omega, by omega, Nat.le_refl _, HW4.out.1.set (by rw [HDS.out]; omega) ⟨A1, c1, l1⟩ HXP.out, (by have := IK.out.keep hlt2 HN.out; rwa [HXY2.out.1] at this), HW4.out.2.1.trans (kp_set _ _ _), by simpa using HW4.out.2.2⟩
            · have hend : k + k2 = d.size := by omega
              have hlt3 : ¬ k2 < d.size - k := by omega
              have hlt3i : ¬ (k2 : Int) < (d.size : Int) - (k : Int) := by omega
              have hkc : kk < cap := by omega
              obtain ⟨vs, hvl, hcl⟩ := clearR_run wr g kk (d.size - kk) (cap - kk) (by omega) (fun j hj => by
                obtain ⟨⟨r, _, hc, _⟩, _⟩ := RK.out (kk + j) (by omega)
                rw [hc]; rfl) (fun j hj => (RK.out (kk + j) (by omega)).2)
              have hsl2 : ∀ w, (Instr.slice 32 (.slice (some ⟨g, 0, none⟩) d.size cap) (some (.int .i64 (kk : Int))) none none).run Try.prog w = .ok (.slice (some ⟨g, kk, none⟩) (d.size - kk) (cap - kk)) w := fun w => by
                rw [sliceR_from _ _ _ _ (by omega) hcap, cut1, if_neg (by omega)]
                show Result.ok (Value.slice (some (Addr.add ⟨g, 0, none⟩ (kk * 1))) _ _) _ = _
                rw [addI, Nat.mul_one, Nat.zero_add]
              have hsl3 := fun w => sliceR_to (some (⟨g, 0, none⟩ : Addr)) d.size cap kk (by omega) w
              have HE : Hid (CompEnd g cap pool d w (.returned (.slice (some ⟨g, 0, none⟩) kk cap)) (wr.setCells g kk vs)) := compEnd_cut vs (hend ▸ IK.out) RK.out BK.out hgr
              clear hend
              go_wp2
              go_ret
              exact HE.out
      · have hkd : k = d.size := by omega
        have hlti : ¬ (k : Int) < (d.size : Int) := by omega
        have HE : Hid (CompEnd g cap pool d w (.returned (.slice (some ⟨g, 0, none⟩) d.size cap)) wr) := compEnd_all (HH.out.next HB.out hg) (Kp.of_below HB.out) (Nat.lt_of_lt_of_le hg HB.out.size) fun j hj => A.out j (by omega)
        go_wp2
        go_ret
        exact HE.out
end Go.Proofs.Ytofmfainhflmmaa

/-
  CONTRACTS: whether rows are as long, rise; whether a relation may be (the program's).
-/
namespace Go.Proofs.Ytofmfainhflmmaa
open Go.RowKit

/-- is each as long? -/
def longB (n : Nat) (R : List Rw) : Bool := R.all fun r => decide (r.l.length = n)
theorem longB_no {n j : Nat} {R : List Rw} {r : Rw} (hr : R[j]? = some r) (h : r.l.length ≠ n) : longB n R = false := by
  unfold longB
  rw [List.all_eq_false]
  exact ⟨r, List.mem_of_getElem? hr, by simp [h]⟩
theorem longB_yes {n : Nat} {R : List Rw} (h : ∀ j (r : Rw), j < R.length → R[j]? = some r → r.l.length = n) : longB n R = true := by
  unfold longB
  rw [List.all_eq_true]
  intro r hr
  obtain ⟨j, hj⟩ := List.getElem?_of_mem hr
  simpa using h j r (List.getElem?_eq_some_iff.1 hj).1 hj
theorem SlR.at_ {W : World} {B : Nat} {A : Option Addr} {R : List Rw} (h : SlR W B A R) {j : Nat} (hj : j < R.length) : ∃ b o r, A = some ⟨b, o, none⟩ ∧ b < B ∧ R[j]? = some r ∧ W.cell? ⟨b, o + j, none⟩ = some (.slice r.A r.l.length r.c) ∧ RwOk W B r := by
  obtain ⟨b, o, e, hlt, hc⟩ := h.s.at_ hj
  exact ⟨b, o, R[j], e, hlt, List.getElem?_eq_getElem hj, hc, h.r _ (List.getElem_mem hj)⟩

set_option maxHeartbeats 400000 in
theorem long1_any (b : Nat) (n : Nat) (r : Rw) (w : World) (hc : w.cell? ⟨b, 0, none⟩ = some (.int .i64 n)) :
    Calls Try.prog 110 #[.slice r.A r.l.length r.c, .pointer (some ⟨b, 0, none⟩)] w fun e w' => e = .returned (.bool ((r.l.length : Int) != (n : Int))) ∧ w = w' := by
  obtain ⟨A, c, l⟩ := r
  simp only
  go_enter Try.func110, Try.ntmps110
  go_wp2
  go_ret
  exact ⟨ret_bool (by rfl), rfl⟩
set_option maxRecDepth 100000 in
set_option maxHeartbeats 1000000 in
theorem indexLong_any (b : Nat) (n : Nat) (A : Option Addr) (c : Nat) (R : List Rw) (w : World) (B : Nat) (hs : SlR w B A R) (hl : R.length ≤ 4611686018427387904) (hc : w.cell? ⟨b, 0, none⟩ = some (.int .i64 n)) :
    Calls Try.prog 119 #[.slice A R.length c, .func (.func 110) #[] #[.pointer (some ⟨b, 0, none⟩)]] w fun e w' => (∃ z : Int, e = .returned (.int .i64 z) ∧ decide (0 ≤ z) = !longB n R) ∧ w = w' := by
  have HS := Lib.hid hs
  have HC := Lib.hid hc
  clear hs hc
  go_enter Try.func119, Try.ntmps119
  go_wp2
  go_loopw [8] (fun i wr => ∃ j : Nat, j ≤ R.length ∧ i = .int .i64 j ∧ wr = w ∧ Hid (∀ i (r : Rw), i < j → R[i]? = some r → r.l.length = n)) (fun i _ => R.length - (intOf i).toNat)
  case atStart => exact ⟨0, Nat.zero_le _, rfl, rfl, fun i r h => absurd h (Nat.not_lt_zero _)⟩
  case round =>
    obtain ⟨j, hj, rfl, rfl, HJ⟩ := hrel
    by_cases h1 : j < R.length
    · have h1i : (j : Int) < (R.length : Int) := by omega
      obtain ⟨b', o, r, rfl, hb, hr, hp, hok⟩ := HS.out.at_ h1
      have HF := Lib.hid (long1_any b n r wr HC.out)
      have HR := Lib.hid hr
      clear hok hr
      by_cases h2 : r.l.length = n
      · have hq : ((r.l.length : Int) != (n : Int)) = false := by rw [h2]; simp
        rw [hq] at HF
        have HE : Hid (∀ i (q : Rw), i < j + 1 → R[i]? = some q → q.l.length = n) := fun i q hi hq => by
          by_cases e : i = j
          · subst e
            rw [HR.out] at hq
            rw [← Option.some.inj hq]; exact h2
          · exact HJ.out i q (by omega) hq
        clear h2 hq
        go_wp2_with fail
        refine HF.out.mono ?_
        rintro e w' ⟨rfl, rfl⟩
        go_wp2
        go_roundw
        case rel => exact ⟨j + 1, by omega, by go_num, trivial, HE.out⟩
        case measure => simp [intOf]; omega
      · have hq : ((r.l.length : Int) != (n : Int)) = true := by rw [bne_iff_ne]; omega
        rw [hq] at HF
        have HE : Hid (longB n R = false) := longB_no HR.out h2
        clear h2 hq
        go_wp2_with fail
        refine HF.out.mono ?_
        rintro e w' ⟨rfl, rfl⟩
        go_wp2
        go_ret
        refine ⟨⟨_, rfl, ?_⟩, rfl⟩
        rw [HE.out, decide_eq_true (by omega)]; rfl
    · have h1i : ¬ (j : Int) < (R.length : Int) := by omega
      have HE : Hid (longB n R = true) := longB_yes fun i r hi hr => HJ.out i r (by omega) hr
      go_wp2
      go_ret
      refine ⟨⟨_, rfl, ?_⟩, rfl⟩
      rw [HE.out]; rfl
set_option maxHeartbeats 1000000 in
theorem areAsLong_any (n : Nat) (A : Option Addr) (c : Nat) (R : List Rw) (w : World) (B : Nat) (hs : SlR w B A R) (hB : B ≤ w.heap.size) (hl : R.length ≤ 4611686018427387904) :
    Calls Try.prog 73 #[.slice A R.length c, .int .i64 n] w fun e w' => e = .returned (.bool (longB n R)) ∧ Below w.heap.size w w' := by
  have HS := Lib.hid (hs.next ((Below.refl w.heap.size w).alloc (Nat.le_refl _) (.cells #[.int .i64 n] 3)) hB)
  have HCF := Lib.hid (fun b hc => indexLong_any b n A c R (w.alloc (.cells #[.int .i64 n] 3)) B HS.out hl hc)
  have HBA := Lib.hid ((Below.refl w.heap.size w).alloc (Nat.le_refl _) (.cells #[.int .i64 n] 3))
  have HCC : Hid (∀ (b : Nat), (w.alloc (.cells #[.int .i64 n] 3)).cell? ⟨b, 0, none⟩ = some (.int .i64 n) → Calls Try.prog 109 #[.slice A R.length c, .func (.func 110) #[] #[.pointer (some ⟨b, 0, none⟩)]] (w.alloc (.cells #[.int .i64 n] 3)) fun e w' => e = .returned (.bool (!longB n R)) ∧ (w.alloc (.cells #[.int .i64 n] 3)) = w') := fun b hc => by
    have HF := Lib.hid (HCF.out b hc)
    generalize (w.alloc (.cells #[.int .i64 n] 3)) = W at HF ⊢
    generalize longB n R = q at HF ⊢
    clear hs HS HCF HBA hc
    go_enter Try.func109, Try.ntmps109
    go_wp2_with fail
    refine HF.out.mono ?_
    rintro e w' ⟨⟨z, rfl, hz⟩, rfl⟩
    have HZ := Lib.hid hz
    clear hz
    go_wp2
    go_ret
    exact ⟨ret_bool HZ.out, rfl⟩
  generalize longB n R = q at HCC ⊢
  clear hs HS HCF
  go_enter Try.func73, Try.ntmps73
  go_wp2_with fail
  refine (HCC.out w.heap.size (by rw [World.cell?_alloc_new]; rfl)).mono ?_
  rintro e w' ⟨rfl, rfl⟩
  go_wp2
  go_ret
  exact ⟨ret_bool (by simp), HBA.out⟩
end Go.Proofs.Ytofmfainhflmmaa

/-
  CONTRACT: rows.gathered, from rows to rows.
-/
namespace Go.Proofs.Ytofmfainhflmmaa
open Go.RowKit

theorem OwnR.alloc {W : World} {B : Nat} {v : Value} {R : List Rw} (h : OwnR W B v R) (o : Obj) : OwnR (W.alloc o) B v R := h.next ((Below.refl _ _).alloc (Nat.le_refl _) _)
/-- one row more -/
theorem OwnR.snoc {W W3 : World} {B m : Nat} {v v' : Value} {R : List Rw} {r : Rw} (h : OwnR W B v R) (hr : OwnV W B (cellR r) r.l) (hz : zOk r.l) (hown : W3.ownsRow B 46 1 v' m (R.map cellR ++ [r].map cellR)) (hg : W.grownBy W3 v.ownBlock) : OwnR W3 B v' (R ++ [r]) := by
  have ho := h.o
  refine ⟨own1_of hown, fun x hx => ?_, fun x hx => ?_⟩
  · rcases List.mem_append.1 hx with e | e
    · exact owns_other (h.i x e) ho (by decide) hg
    · rw [List.mem_singleton] at e
      subst e
      exact owns_other hr ho (by decide) hg
  · rcases List.mem_append.1 hx with e | e
    · exact h.z x e
    · rw [List.mem_singleton] at e
      subst e; exact hz
/-- what a function that is handed to gathered does -/
def Becomes (fn : Nat) (caps : Array Value) (F : List Vl → List Vl) (R : List Rw) (w : World) : Prop :=
  ∀ r ∈ R, ∀ W, Below w.heap.size w W → Calls Try.prog fn (#[.slice r.A r.l.length r.c] ++ caps) W fun e w' => ∃ v, e = .returned v ∧ OwnV w' W.heap.size v (F r.l) ∧ Below W.heap.size W w'

set_option maxRecDepth 100000 in
set_option maxHeartbeats 2000000 in
theorem gathR_any (fn : Nat) (caps : Array Value) (F : List Vl → List Vl) (A : Option Addr) (c : Nat) (R : List Rw) (w : World) (hs : SlR w w.heap.size A R) (hl : R.length ≤ 1000000000000) (eg : ∀ args w, (callFunc fn args).run Try.prog w = .ok (.enter fn args) w) (hF : Becomes fn caps F R w) (hz : ∀ r ∈ R, zOk (F r.l)) :
    Calls Try.prog 66 #[.slice A R.length c, .func (.func fn) #[] caps] w fun e w' => ∃ v R', e = .returned v ∧ OwnR w' w.heap.size v R' ∧ txR R' = R.map (fun r => F r.l) ∧ Below w.heap.size w w' := by
  obtain ⟨i0, hi, hz0, hz1, hz2⟩ := info_parts infoR
  have hmx : 2000000000000 ≤ maxLen := by decide
  have HS := Lib.hid hs
  have HF := Lib.hid hF
  have HZ := Lib.hid hz
  clear hs hF hz
  go_enter Try.func66, Try.ntmps66
  go_wp2_with (at_make; refine wpList_make_own _ rfl _ _ 32 rfl w.heap.size 46 i0 (.slice none 0 0) 1 Try.underlying32 hi hz0 hz1 .i64 .i64 _ R.length rfl rfl rfl (by rw [hz2]; omega) (by omega) (Nat.le_refl _) ?_; intro w0 hown0 hgrow0)
  have HO0 : Hid (OwnR w0 w.heap.size (.slice (some ⟨w.heap.size, 0, none⟩) 0 R.length) []) := ⟨hown0, (fun x hx => by cases hx), (fun x hx => by cases hx)⟩
  have HB0 : Hid (Below w.heap.size w w0) := (Below.refl _ _).grown hgrow0 (Nat.le_refl _) (fun k hk => by cases hk)
  clear hown0 hgrow0
  go_loopg [5, 13] R.length (fun g x5 x13 wr => ∃ (j : Nat) (acc : List Rw), OwnR wr w.heap.size x5 acc ∧ x13 = .int .i64 j ∧ j + g = R.length ∧ acc.length = j ∧ Hid (txR acc = (R.take j).map (fun r => F r.l)) ∧ Hid (Below w.heap.size w wr))
  case atStart => exact ⟨0, [], HO0.out, rfl, by omega, rfl, by show _ = _; simp [txR], HB0.out⟩
  case round =>
    obtain ⟨j, acc, ho, rfl, hj, hal, HT, HB⟩ := hrel
    obtain ⟨A1, c1, rfl, hsA, hl1, hc1, hn1, _⟩ := ho.form
    have HO := Lib.hid ho
    have HAL := Lib.hid hal
    rw [hal] at HO hl1 ⊢
    clear ho hsA hal hn1
    cases gk with
    | zero =>
      have hji : ¬ (j : Int) < (R.length : Int) := by omega
      have HE : Hid (txR acc = R.map (fun r => F r.l)) := by
        have := HT.out
        rw [List.take_of_length_le (by omega)] at this
        exact this
      go_wp2
      go_ret
      exact ⟨_, rfl, acc, HO.out, HE.out, HB.out⟩
    | succ g =>
      have hji : (j : Int) < (R.length : Int) := by omega
      have hjn : j < R.length := by omega
      obtain ⟨b, o, r, rfl, hb, hr, hp, hok⟩ := (HS.out.next HB.out (Nat.le_refl _)).at_ hjn
      have HC := Lib.hid (HF.out r (List.mem_of_getElem? hr) wr HB.out)
      have HTK : Hid (R.take (j + 1) = R.take j ++ [r]) := by
        show _ = _
        rw [List.take_succ_eq_append_getElem hjn]
        rw [List.getElem?_eq_getElem hjn] at hr
        rw [Option.some.inj hr]
      have HZR := Lib.hid (HZ.out r (List.mem_of_getElem? hr))
      clear hr hok
      go_wp2_with fail
      refine HC.out.mono ?_
      rintro e w2 ⟨v2, rfl, hv2, hb2⟩
      obtain ⟨A2, c2, rfl, hs2, hl2, hc2, hn2⟩ := hv2.form
      have HB2 : Hid (Below w.heap.size w w2) := HB.out.trans (hb2.mono HB.out.size)
      obtain ⟨q, hq⟩ : ∃ q : Rw, q = ⟨A2, c2, F r.l⟩ := ⟨_, rfl⟩
      have hq1 : Value.slice A2 (F r.l).length c2 = cellR q := by rw [hq]; rfl
      have HQL : Hid (q.l = F r.l) := by rw [hq]; rfl
      rw [hq1] at hv2 ⊢
      have HV2 : Hid (OwnV w2 w.heap.size (cellR q) q.l) := by
        show OwnV _ _ _ _
        rw [HQL.out]; exact hv2.low HB.out.size
      have HZQ : Hid (zOk q.l) := by show zOk _; rw [HQL.out]; exact HZR.out
      have HO2 := Lib.hid (HO.out.next (hb2.mono (Nat.le_refl _)))
      have HOA := Lib.hid (HO2.out.alloc (.cells #[cellR q] 46))
      have HVA := Lib.hid (HV2.out.next ((Below.refl _ _).alloc (Nat.le_refl _) (.cells #[cellR q] 46)))
      have HLC := Lib.hid (lit1 cellR 46 w2 q)
      have HBA := Lib.hid (HB2.out.alloc HB2.out.size (.cells #[cellR q] 46))
      obtain ⟨n2, hn2x⟩ : ∃ n2, (F r.l).length = n2 := ⟨_, rfl⟩
      have hcv : cellR q = .slice A2 n2 c2 := by rw [hq, ← hn2x]; rfl
      have HCV := Lib.hid hcv
      rw [hcv] at HVA HLC HBA HOA ⊢
      clear hq hq1 hv2 hb2 hs2 hl2 hc2 hn2 hcv HO2 HV2 hn2x
      have HOX := Lib.hid HOA.out.o
      unfold Own1 at HOX
      rw [HAL.out] at HOX
      have HONE : Hid (∀ u ∈ [q].map cellR, u.oneCell' = true) := fun u hu => by obtain ⟨x, _, rfl⟩ := List.mem_map.1 hu; rfl
      go_wp2_with (at_builtin; refine wpList_append_any rfl _ _ 32 rfl w.heap.size 46 i0 (.slice none 0 0) 1 24 Try.underlying32 hi hz0 hz1 hz2 rfl (by decide) _ _ _ rfl HOX.out (some ⟨w2.heap.size, 0, none⟩) 1 1 ([q].map cellR) rfl rfl (fun h => by cases h) HLC.out HONE.out (by omega) (by omega) HBA.out.size ?_; intro v1 w3 hown hgrow; have HV1 : Hid (OwnR w3 w.heap.size v1 (acc ++ [q])) := HOA.out.snoc (by rw [HCV.out]; exact HVA.out) HZQ.out hown hgrow; have HB3 := Lib.hid (HBA.out.trans (below_owns HOX.out hgrow HBA.out.size)); clear hown hgrow)
      go_roundg g
      case measure => omega
      case rel =>
        refine ⟨j + 1, acc ++ [q], HV1.out, by go_num, by omega, by rw [List.length_append, HAL.out]; rfl, ?_, HB3.out⟩
        show _ = _
        unfold txR at HT ⊢
        rw [HTK.out, List.map_append, List.map_append, HT.out, List.map_cons, List.map_cons, HQL.out]
        rfl
end Go.Proofs.Ytofmfainhflmmaa
