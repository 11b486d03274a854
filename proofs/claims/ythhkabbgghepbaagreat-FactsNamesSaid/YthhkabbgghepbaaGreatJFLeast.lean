import Derived.Test.YthhkabbgghepbaaGreatJFFoldP
import Derived.Test.YthhkabbgghepbaaGreatJFFoldW
import Derived.Test.YthhkabbgghepbaaGreatJFSame
import Derived.Test.YthhkabbgghepbaaGreatJDSl
import Derived.Test.YthhkabbgghepbaaGreatJOrdRef
import Derived.Test.YthhkabbgghepbaaGreatJSHasL
import Derived.Test.YthhkabbgghepbaaGreatJFThen
/-
  PLAIN FACTS: an instant is in what is folded just if the last datom that names it is Add.
-/
namespace Go.Proofs.YthhkabbgghepbaaGreat

/-- stretches of one key rise, where the keys do -/
theorem runsL_rise {α κ : Type} [DecidableEq κ] (key : α → κ) {R : κ → κ → Prop} (tr : ∀ a b c, R a b → R b c → R a c) : ∀ (n : Nat) (l : List α), l.length ≤ n → l.Pairwise (fun x y => key x = key y ∨ R (key x) (key y)) →
    (runsL key l).Pairwise fun r r' => ∀ x ∈ r, ∀ y ∈ r', R (key x) (key y)
  | 0, l, h, _ => by
    have : l = [] := List.length_eq_zero_iff.1 (by omega)
    subst this; rw [runsL_nil]; exact List.Pairwise.nil
  | n + 1, l, h, hp => by
    by_cases hl : l = []
    · subst hl; rw [runsL_nil]; exact List.Pairwise.nil
    · have h1 := runN_pos key hl
      have h2 := runN_le key l
      have h0 : 0 < l.length := List.length_pos_iff.2 hl
      rw [runsL_step key hl]
      have hd : (l.drop (runN key l)).Pairwise fun x y => key x = key y ∨ R (key x) (key y) := hp.sublist (List.drop_sublist _ _)
      refine List.pairwise_cons.2 ⟨fun r' hr' x hx y hy => ?_, runsL_rise key tr n _ (by rw [List.length_drop]; omega) hd⟩
      have hy' : y ∈ l.drop (runN key l) := by
        rw [← runsL_join key _ (l.drop (runN key l)) (Nat.le_refl _)]
        exact List.mem_flatten.2 ⟨r', hr', hy⟩
      obtain ⟨i, hi, rfl⟩ := List.mem_iff_getElem.1 hx
      obtain ⟨j, hj, rfl⟩ := List.mem_iff_getElem.1 hy'
      rw [List.length_take] at hi
      rw [List.length_drop] at hj
      rw [List.getElem_take, List.getElem_drop, runN_same key (by omega) (by omega)]
      have hlt : runN key l < l.length := by omega
      have hne : key l[runN key l] ≠ key l[0] := fun e => by
        have hs : ∀ i (h : i < l.length), i < runN key l + 1 → key l[i] = key l[0] := fun i hi' hn => by
          by_cases hi2 : i < runN key l
          · exact runN_same key hi' hi2
          · have : i = runN key l := by omega
            subst this; exact e
        cases hx : l with
        | nil => exact hl hx
        | cons a m =>
          have hm : runN key l = 1 + (m.takeWhile fun y => decide (key y = key a)).length := by rw [hx]; rfl
          have hlm : l.length = m.length + 1 := by rw [hx]; rfl
          have h3 : (m.takeWhile fun y => decide (key y = key a)).length < m.length := by omega
          have h4 := takeWhile_stop (fun y => decide (key y = key a)) m h3
          have h5 : l[runN key l] = m[(m.takeWhile fun y => decide (key y = key a)).length] := by
            simp only [hm, Nat.add_comm 1]
            simp only [hx, List.getElem_cons_succ]
          have h6 : l[0] = a := by simp only [hx, List.getElem_cons_zero]
          rw [h5, h6] at e
          simp [e] at h4
      have hq : R (key l[0]) (key l[runN key l]) := by
        rcases List.pairwise_iff_getElem.1 hp 0 (runN key l) h0 hlt (by omega) with e | e
        · exact absurd e.symm hne
        · exact e
      cases j with
      | zero => exact hq
      | succ j =>
        rcases List.pairwise_iff_getElem.1 hp (runN key l) (runN key l + (j + 1)) hlt (by omega) (by omega) with e | e
        · rw [← e]; exact hq
        · exact tr _ _ _ hq e
where
  takeWhile_stop {α : Type} (p : α → Bool) : ∀ (l : List α) (h : (l.takeWhile p).length < l.length), p (l[(l.takeWhile p).length]) = false
    | [], h => by simp at h
    | x :: l, h => by
      by_cases hx : p x = true
      · have e : ((x :: l).takeWhile p).length = (l.takeWhile p).length + 1 := by rw [List.takeWhile_cons, if_pos hx]; rfl
        have := takeWhile_stop p l (by rw [e] at h; simpa using h)
        simp only [e, List.getElem_cons_succ]
        exact this
      · have e : ((x :: l).takeWhile p).length = 0 := by rw [List.takeWhile_cons, if_neg hx]; rfl
        simp only [e, List.getElem_cons_zero]
        simpa using hx

/-- a datom names an instant -/
def Names (d : Dat) (t : Int) : Prop := d.fr ≤ t ∧ t < d.til
theorem inn_adds {r : List Dat} {t : Int} : Inn (addsL r) t ↔ ∃ d ∈ r, d.add = true ∧ Names d t := by
  constructor
  · rintro ⟨s, hs, h⟩
    obtain ⟨d, hd, rfl⟩ := List.mem_map.1 hs
    obtain ⟨h1, h2⟩ := List.mem_filter.1 hd
    exact ⟨d, h1, h2, h⟩
  · rintro ⟨d, h1, h2, h⟩
    exact ⟨spD d, List.mem_map.2 ⟨d, List.mem_filter.2 ⟨h1, h2⟩, rfl⟩, h⟩
theorem inn_cuts {r : List Dat} {t : Int} : Inn (cutsL r) t ↔ ∃ d ∈ r, d.add = false ∧ Names d t := by
  constructor
  · rintro ⟨s, hs, h⟩
    obtain ⟨d, hd, rfl⟩ := List.mem_map.1 hs
    obtain ⟨h1, h2⟩ := List.mem_filter.1 hd
    exact ⟨d, h1, by simpa using h2, h⟩
  · rintro ⟨d, h1, h2, h⟩
    exact ⟨spD d, List.mem_map.2 ⟨d, List.mem_filter.2 ⟨h1, by simpa using h2⟩, rfl⟩, h⟩
/-- of turns that rise in time, with no instant both added and cut in one, an instant is in just if it is in one's, and cut by none behind -/
theorem inT_last : ∀ (rs : List (List Dat)) (t : Int), rs.Pairwise (fun r r' => ∀ x ∈ r, ∀ y ∈ r', x.t < y.t) → (∀ r ∈ rs, ¬ Clash r) → (∀ r ∈ rs, ∀ x ∈ r, ∀ y ∈ r, x.t = y.t) →
    (inT (rs.map turnR) t ↔ ∃ x ∈ rs.flatten, x.add = true ∧ Names x t ∧ ∀ y ∈ rs.flatten, Names y t → y.add = false → y.t < x.t)
  | [], t, _, _, _ => by simp [inT]
  | r :: rs, t, hp, hc, he => by
    obtain ⟨hr, hp'⟩ := List.pairwise_cons.1 hp
    have ih := inT_last rs t hp' (fun q hq => hc q (List.mem_cons_of_mem _ hq)) (fun q hq => he q (List.mem_cons_of_mem _ hq))
    show (Inn (addsL r) t ∧ ∀ y ∈ rs.map turnR, ¬ Inn y.o t) ∨ inT (rs.map turnR) t ↔ _
    rw [ih, inn_adds]
    constructor
    · rintro (⟨⟨x, hx, h1, h2⟩, h3⟩ | ⟨x, hx, h1, h2, h3⟩)
      · refine ⟨x, List.mem_flatten.2 ⟨r, by simp, hx⟩, h1, h2, fun y hy hn ha => ?_⟩
        obtain ⟨q, hq, hyq⟩ := List.mem_flatten.1 hy
        rcases List.mem_cons.1 hq with e | hq
        · subst e
          exact absurd ⟨t, inn_adds.2 ⟨x, hx, h1, h2⟩, inn_cuts.2 ⟨y, hyq, ha, hn⟩⟩ (hc q (by simp))
        · exact absurd (inn_cuts.2 ⟨y, hyq, ha, hn⟩) (h3 (turnR q) (List.mem_map.2 ⟨q, hq, rfl⟩))
      · refine ⟨x, List.mem_flatten.2 ?_, h1, h2, fun y hy hn ha => ?_⟩
        · obtain ⟨q, hq, hxq⟩ := List.mem_flatten.1 hx
          exact ⟨q, List.mem_cons_of_mem _ hq, hxq⟩
        · obtain ⟨q, hq, hyq⟩ := List.mem_flatten.1 hy
          rcases List.mem_cons.1 hq with e | hq
          · subst e
            obtain ⟨q', hq', hxq'⟩ := List.mem_flatten.1 hx
            exact hr q' hq' y hyq x hxq'
          · exact h3 y (List.mem_flatten.2 ⟨q, hq, hyq⟩) hn ha
    · rintro ⟨x, hx, h1, h2, h3⟩
      obtain ⟨q, hq, hxq⟩ := List.mem_flatten.1 hx
      rcases List.mem_cons.1 hq with e | hq
      · subst e
        refine .inl ⟨⟨x, hxq, h1, h2⟩, fun y hy hi => ?_⟩
        obtain ⟨q', hq', rfl⟩ := List.mem_map.1 hy
        obtain ⟨z, hz, ha, hn⟩ := inn_cuts.1 hi
        have := h3 z (List.mem_flatten.2 ⟨q', List.mem_cons_of_mem _ hq', hz⟩) hn ha
        have := hr q' hq' x hxq z hz
        omega
      · refine .inr ⟨x, List.mem_flatten.2 ⟨q, hq, hxq⟩, h1, h2, fun y hy hn ha => ?_⟩
        obtain ⟨q', hq', hy'⟩ := List.mem_flatten.1 hy
        exact h3 y (List.mem_flatten.2 ⟨q', List.mem_cons_of_mem _ hq', hy'⟩) hn ha
end Go.Proofs.YthhkabbgghepbaaGreat

/-
  PLAIN FACTS: how triples stand; which facts may be; what datoms are folded to may be.
-/
namespace Go.Proofs.YthhkabbgghepbaaGreat
open VOrd (IsOrd lexO lex_is ordI_is ordT_is ordT)

/-- how two triples stand -/
def ordTr (x y : Int × Int × Int × Int × ByteArray) : Int := lexO ordI (lexO ordI ordT) x y
theorem ordTr_is : IsOrd ordTr := lex_is ordI_is (lex_is ordI_is ordT_is)
def triF (f : FactP) : Int × Int × Int × Int × ByteArray := (f.e, f.a, f.k, f.m, f.s)
/-- a datom that has all but the triple as it may be -/
def datF (f : FactP) : Dat := ⟨f.e, f.a, f.k, f.m, f.s, 1, false, 0, 1⟩
def mayF (f : FactP) : Bool := mayD (datF f) && decide (0 < f.l.length) && setB f.l
def RiseF (fs : List FactP) : Prop := fs.Pairwise fun x y => ordTr (triF x) (triF y) < 0
instance (fs : List FactP) : Decidable (RiseF fs) := inferInstanceAs (Decidable (fs.Pairwise fun x y => ordTr (triF x) (triF y) < 0))
/-- facts may be -/
def MayFs (fs : List FactP) : Prop := (∀ f ∈ fs, mayF f = true) ∧ RiseF fs
instance (fs : List FactP) : Decidable (MayFs fs) := inferInstanceAs (Decidable ((∀ f ∈ fs, mayF f = true) ∧ RiseF fs))
def mayFs (fs : List FactP) : Bool := decide (MayFs fs)
/-- one fact, behind the one ahead of it -/
def FOk (fs : List FactP) (i : Nat) : Prop := ∀ f, fs[i]? = some f → mayF f = true ∧ ∀ p, 0 < i → fs[i - 1]? = some p → ordTr (triF p) (triF f) < 0
theorem mayFs_all {fs : List FactP} (h : ∀ i, i < fs.length → FOk fs i) : mayFs fs = true := by
  refine decide_eq_true ⟨fun f hf => ?_, ?_⟩
  · obtain ⟨i, hi, rfl⟩ := List.mem_iff_getElem.1 hf
    exact (h i hi _ (List.getElem?_eq_getElem hi)).1
  · have step : ∀ (j : Nat) (hj : j + 1 < fs.length), ordTr (triF (fs[j]'(by omega))) (triF fs[j + 1]) < 0 := fun j hj => by
      have := (h (j + 1) hj _ (List.getElem?_eq_getElem hj)).2 (fs[j]'(by omega)) (by omega) (List.getElem?_eq_getElem (by omega))
      exact this
    have far : ∀ (n i : Nat) (hn : i + n + 1 < fs.length), ordTr (triF (fs[i]'(by omega))) (triF fs[i + n + 1]) < 0 := fun n => by
      induction n with
      | zero => exact fun i hn => step i hn
      | succ n ih => exact fun i hn => ordTr_is.lt (ih i (by omega)) (Int.le_of_lt (step (i + n + 1) (by omega)))
    show fs.Pairwise _
    rw [List.pairwise_iff_getElem]
    intro i j hi hj hij
    obtain ⟨n, rfl⟩ : ∃ n, j = i + n + 1 := ⟨j - i - 1, by omega⟩
    exact far n i hj
theorem fOk_of {fs : List FactP} (h : mayFs fs = true) (i : Nat) : FOk fs i := fun f hf => by
  obtain ⟨h1, h2⟩ := of_decide_eq_true h
  refine ⟨h1 f (List.mem_of_getElem? hf), fun p hi hp => ?_⟩
  obtain ⟨g1, rfl⟩ := List.getElem?_eq_some_iff.1 hf
  obtain ⟨g2, rfl⟩ := List.getElem?_eq_some_iff.1 hp
  exact List.pairwise_iff_getElem.1 h2 (i - 1) i g2 g1 (by omega)
theorem mayFs_no {fs : List FactP} {i : Nat} (h : ¬ FOk fs i) : mayFs fs = false := by
  cases hm : mayFs fs with
  | false => rfl
  | true => exact absurd (fOk_of hm i) h

theorem mem_factsOf : ∀ (rs : List (List Dat)) (ls : List (List Sp)) (f : FactP), f ∈ factsOf rs ls → ∃ (i : Nat) (d : Dat) (r : List Dat) (l : List Sp), rs[i]? = some (d :: r) ∧ ls[i]? = some l ∧ l ≠ [] ∧ f = factD d l
  | [], _, f, h => by cases h
  | _ :: _, [], f, h => by cases h
  | r :: rs, l :: ls, f, h => by
    rw [factsOf_cons] at h
    rcases List.mem_append.1 h with h | h
    · cases r with
      | nil => cases h
      | cons d r =>
        unfold factOf at h
        simp only at h
        by_cases hl : l = []
        · rw [if_pos hl] at h; cases h
        · rw [if_neg hl] at h
          exact ⟨0, d, r, l, rfl, rfl, hl, List.mem_singleton.1 h⟩
    · obtain ⟨i, d, q, m, h1, h2, h3, h4⟩ := mem_factsOf rs ls f h
      exact ⟨i + 1, d, q, m, by simpa using h1, by simpa using h2, h3, h4⟩
theorem factsOf_mem : ∀ (rs : List (List Dat)) (ls : List (List Sp)) (i : Nat) (d : Dat) (r : List Dat) (l : List Sp), rs[i]? = some (d :: r) → ls[i]? = some l → l ≠ [] → factD d l ∈ factsOf rs ls
  | [], _, i, d, r, l, h, _, _ => by simp at h
  | _ :: _, [], i, d, r, l, _, h, _ => by simp at h
  | q :: rs, m :: ls, 0, d, r, l, h, h', hl => by
    simp at h h'
    subst h h'
    rw [factsOf_cons]
    refine List.mem_append_left _ ?_
    unfold factOf
    simp [hl]
  | q :: rs, m :: ls, i + 1, d, r, l, h, h', hl => by
    rw [factsOf_cons]
    exact List.mem_append_right _ (factsOf_mem rs ls i d r l (by simpa using h) (by simpa using h') hl)
theorem factsOf_rise : ∀ (rs : List (List Dat)) (ls : List (List Sp)), (rs.Pairwise fun r r' => ∀ x ∈ r, ∀ y ∈ r', ordTr (triD x) (triD y) < 0) → RiseF (factsOf rs ls)
  | [], _, _ => List.Pairwise.nil
  | _ :: _, [], _ => List.Pairwise.nil
  | r :: rs, l :: ls, h => by
    obtain ⟨h1, h2⟩ := List.pairwise_cons.1 h
    show ((factOf r l ++ factsOf rs ls)).Pairwise _
    rw [List.pairwise_append]
    refine ⟨?_, factsOf_rise rs ls h2, fun x hx y hy => ?_⟩
    · unfold factOf
      cases r with
      | nil => exact List.Pairwise.nil
      | cons d r =>
        simp only
        split
        · exact List.Pairwise.nil
        · exact List.pairwise_singleton _ _
    · cases r with
      | nil => cases hx
      | cons d r =>
        unfold factOf at hx
        simp only at hx
        split at hx
        · cases hx
        · rw [List.mem_singleton.1 hx]
          obtain ⟨i, d', r', l', g1, _, _, rfl⟩ := mem_factsOf rs ls y hy
          exact h1 (d' :: r') (List.mem_of_getElem? g1) d (by simp) d' (by simp)

theorem ord1_lex (x y : Dat) : ordD 1 x y = lexO ordI (lexO ordI (lexO ordT tailO)) (x.e, (x.a, (valD x, tailD x))) (y.e, (y.a, (valD y, tailD y))) := by
  unfold ordD
  rw [if_pos (by rfl), partsD_1, partsD_1]
  show (if ordI x.e y.e = 0 then (if ordI x.a y.a = 0 then (if ordT (valD x) (valD y) = 0 then ordK [numP x.t, numP (cutN x.add), numP x.fr, numP x.til] [numP y.t, numP (cutN y.add), numP y.fr, numP y.til] else ordT (valD x) (valD y)) else ordI x.a y.a) else ordI x.e y.e) = _
  rw [ordK_tail]; rfl
/-- datoms in order stand by their triples first -/
theorem ord1_tri {x y : Dat} (h : ordD 1 x y < 0) : (triD x = triD y ∧ tailO (tailD x) (tailD y) < 0) ∨ ordTr (triD x) (triD y) < 0 := by
  rw [ord1_lex] at h
  have hT : ordTr (triD x) (triD y) = if ordI x.e y.e = 0 then (if ordI x.a y.a = 0 then ordT (valD x) (valD y) else ordI x.a y.a) else ordI x.e y.e := rfl
  have h' : (if ordI x.e y.e = 0 then (if ordI x.a y.a = 0 then (if ordT (valD x) (valD y) = 0 then tailO (tailD x) (tailD y) else ordT (valD x) (valD y)) else ordI x.a y.a) else ordI x.e y.e) < 0 := h
  rw [hT]
  by_cases h1 : ordI x.e y.e = 0
  · rw [if_pos h1] at h' ⊢
    by_cases h2 : ordI x.a y.a = 0
    · rw [if_pos h2] at h' ⊢
      by_cases h3 : ordT (valD x) (valD y) = 0
      · rw [if_pos h3] at h'
        refine .inl ⟨?_, h'⟩
        have e1 := (ordI_is.zero _ _).1 h1
        have e2 := (ordI_is.zero _ _).1 h2
        have e3 := (ordT_is.zero _ _).1 h3
        unfold valD at e3
        simp only [Prod.mk.injEq] at e3
        unfold triD
        rw [e1, e2, e3.1, e3.2.1, e3.2.2]
      · rw [if_neg h3] at h'
        exact .inr h'
    · rw [if_neg h2] at h' ⊢
      exact .inr h'
  · rw [if_neg h1] at h' ⊢
    exact .inr h'
theorem sorts_ups (l : List Dat) : Ups (ordD 1) (sortsD 1 l) ∧ ∀ z, z ∈ sortsD 1 l ↔ z ∈ l := by
  have e1 : isO 1 = true := rfl
  have h2 := putsG_from (ordD_is e1) (l.filter (hasD 1)) [] (by unfold Ups; exact List.Pairwise.nil)
  unfold sortsD
  rw [if_pos e1]
  unfold putsG
  refine ⟨h2.1, fun z => ?_⟩
  rw [h2.2 z, List.mem_filter]
  have : hasD 1 z = true := by unfold hasD; simp
  simp [this]
theorem tri_trans (a b c : Int × Int × Int × Int × ByteArray) (h : ordTr a b < 0) (h' : ordTr b c < 0) : ordTr a c < 0 := ordTr_is.lt h (Int.le_of_lt h')
theorem tri_irr (a : Int × Int × Int × Int × ByteArray) : ¬ ordTr a a < 0 := by
  have := (ordTr_is.zero a a).2 rfl
  omega
/-- runs of datoms in order rise by their triples -/
theorem runs_rise (l : List Dat) : (runsL triD (sortsD 1 l)).Pairwise fun r r' => ∀ x ∈ r, ∀ y ∈ r', ordTr (triD x) (triD y) < 0 :=
  runsL_rise triD (R := fun a b => ordTr a b < 0) tri_trans _ _ (Nat.le_refl _) ((sorts_ups l).1.imp fun h => (ord1_tri h).imp And.left id)
theorem foldsTo_may {l : List Dat} {fs : List FactP} (hm : notMay l = false) (h : FoldsTo (runsL triD (sortsD 1 l)) fs) : mayFs fs = true := by
  obtain ⟨ls, h1, h2, rfl⟩ := h
  refine decide_eq_true ⟨fun f hf => ?_, factsOf_rise _ _ (runs_rise l)⟩
  obtain ⟨i, d, r, q, g1, g2, g3, rfl⟩ := mem_factsOf _ _ f hf
  have hd : d ∈ l := ((sorts_ups l).2 d).1 (run_mem triD (List.mem_of_getElem? g1) (by simp))
  unfold notMay at hm
  rw [List.any_eq_false] at hm
  have hmd : mayD d = true := by simpa using hm d hd
  have hset := (h2 i _ _ g1 g2).1
  unfold mayF
  rw [Bool.and_eq_true_iff, Bool.and_eq_true_iff]
  refine ⟨⟨?_, decide_eq_true (List.length_pos_iff.2 g3)⟩, decide_eq_true hset⟩
  unfold mayD at hmd ⊢
  simp only [Bool.and_eq_true] at hmd ⊢
  exact ⟨⟨hmd.1.1, decide_eq_true (show (1 : Int) ≤ 1 ∧ (1 : Int) ≤ 1099511627776 by omega)⟩, decide_eq_true (show (0 : Int) < 1 by omega)⟩
/-- the instants of a triple -/
def spansOf (fs : List FactP) (x : Int × Int × Int × Int × ByteArray) : List Sp := match fs.find? (fun f => decide (triF f = x)) with
  | some f => f.l
  | none => []
theorem rise_one {fs : List FactP} (h : RiseF fs) {f g : FactP} (hf : f ∈ fs) (hg : g ∈ fs) (e : triF f = triF g) : f = g := by
  obtain ⟨i, hi, rfl⟩ := List.mem_iff_getElem.1 hf
  obtain ⟨j, hj, rfl⟩ := List.mem_iff_getElem.1 hg
  rcases Nat.lt_trichotomy i j with hij | hij | hij
  · have := List.pairwise_iff_getElem.1 h i j hi hj hij
    rw [e] at this
    exact absurd this (tri_irr _)
  · subst hij; rfl
  · have := List.pairwise_iff_getElem.1 h j i hj hi hij
    rw [e] at this
    exact absurd this (tri_irr _)
theorem spansOf_mem {fs : List FactP} (h : RiseF fs) {f : FactP} (hf : f ∈ fs) : spansOf fs (triF f) = f.l := by
  unfold spansOf
  cases hq : fs.find? (fun g => decide (triF g = triF f)) with
  | none =>
    have := List.find?_eq_none.1 hq f hf
    simp at this
  | some g =>
    have h1 := List.mem_of_find?_eq_some hq
    have h2 := List.find?_some hq
    rw [rise_one h h1 hf (of_decide_eq_true h2)]
theorem spansOf_none {fs : List FactP} {x : Int × Int × Int × Int × ByteArray} (h : ∀ f ∈ fs, triF f ≠ x) : spansOf fs x = [] := by
  unfold spansOf
  cases hq : fs.find? (fun g => decide (triF g = x)) with
  | none => rfl
  | some g =>
    have h2 := List.find?_some hq
    exact absurd (of_decide_eq_true h2) (h g (List.mem_of_find?_eq_some hq))
end Go.Proofs.YthhkabbgghepbaaGreat

/-
  CONTRACTS of package facts: cmp.Or at numbers, ofFact, a triple's compare and mayBe, isFact, mayBe, Check.
-/
namespace Go.Proofs.YthhkabbgghepbaaGreat
open Go.RowKit Go.Shelf
open VOrd (IsOrd lexO lex_is ordI_is ordT_is ordT)

/-- a value that reads as spans -/
def SVa (W : World) (v : Value) (l : List Sp) : Prop := ∃ A c, v = .slice A l.length c ∧ SlS W W.heap.size A l ∧ l.length ≤ c ∧ c ≤ maxLen
theorem SV.a {W : World} {v : Value} {l : List Sp} (h : SV W v l) : SVa W v l := by
  obtain ⟨A, c, e, h1, h2, h3, _⟩ := h
  exact ⟨A, c, e, h1, h2, h3⟩
theorem SVa.next {W W' : World} {v : Value} {l : List Sp} (h : SVa W v l) (hb : Below W.heap.size W W') : SVa W' v l := by
  obtain ⟨A, c, e, h1, h2, h3⟩ := h
  exact ⟨A, c, e, (h1.next hb (Nat.le_refl _)).more hb.size, h2, h3⟩
/-- a value that reads as facts, wherever their spans lie -/
def FVa (W : World) (v : Value) (fs : List FactP) : Prop := ∃ A c, v = .slice A fs.length c ∧ (fs ≠ [] → ∃ b o, A = some ⟨b, o, none⟩ ∧ b < W.heap.size ∧ ∀ (j : Nat) (f : FactP), fs[j]? = some f → ∃ sv, FcV W b (o + j * 6) f sv ∧ SVa W sv f.l) ∧ fs.length ≤ c ∧ c ≤ maxLen
theorem FVa.next {W W' : World} {v : Value} {fs : List FactP} (h : FVa W v fs) (hb : Below W.heap.size W W') : FVa W' v fs := by
  obtain ⟨A, c, e, hs, h2, h3⟩ := h
  refine ⟨A, c, e, fun hl => ?_, h2, h3⟩
  obtain ⟨b, o, e, hlt, hc⟩ := hs hl
  refine ⟨b, o, e, Nat.lt_of_lt_of_le hlt hb.size, fun j f hf => ?_⟩
  obtain ⟨sv, hc, hsv⟩ := hc j f hf
  exact ⟨sv, hc.next hb hlt, hsv.next hb⟩
theorem FV.a {W : World} {v : Value} {fs : List FactP} (h : FV W v fs) : FVa W v fs := by
  obtain ⟨A, c, e, hs, h2, h3⟩ := h
  refine ⟨A, c, e, fun hl => ?_, h2, h3⟩
  obtain ⟨b, o, e, hlt, hc⟩ := hs hl
  refine ⟨b, o, e, hlt, fun j f hf => ?_⟩
  obtain ⟨c0, c1, c2, c3, c4, sv, c5, hsv⟩ := hc j f hf
  exact ⟨sv, ⟨c0, c1, c2, c3, c4, c5⟩, hsv.a⟩
theorem fva_at {W : World} {A : Option Addr} {c : Nat} {fs : List FactP} (h : FVa W (.slice A fs.length c) fs) {j : Nat} (hj : j < fs.length) : ∃ b o sv, A = some ⟨b, o, none⟩ ∧ b < W.heap.size ∧ FcV W b (o + j * 6) fs[j] sv ∧ SVa W sv fs[j].l := by
  obtain ⟨A2, c2, e, hs, _⟩ := h
  injection e with e _ _
  subst e
  obtain ⟨b, o, e, hlt, hc⟩ := hs (List.length_pos_iff.1 (by omega))
  obtain ⟨sv, hc, hsv⟩ := hc j _ (List.getElem?_eq_getElem hj)
  exact ⟨b, o, sv, e, hlt, hc, hsv⟩
def orL : List Int → Int
  | [] => 0
  | x :: l => if x = 0 then orL l else x
set_option maxRecDepth 100000 in
set_option maxHeartbeats 1000000 in
theorem cmpOr_any (b c : Nat) (l : List Int) (w : World) (hs : ∀ (j : Nat) (v : Int), l[j]? = some v → w.cell? ⟨b, j, none⟩ = some (.int .i64 v)) (hl : l.length ≤ 1000) :
    Calls Tryz.prog 108 #[.slice (some ⟨b, 0, none⟩) l.length c] w fun e w' => e = .returned (.int .i64 (orL l)) ∧ w = w' := by
  have HS := Lib.hid hs
  clear hs
  go_enter Tryz.func108, Tryz.ntmps108
  go_wp2
  go_loopg [5, 8] l.length (fun g _ y wr => ∃ j : Nat, y = .int .i64 j ∧ j + g = l.length ∧ Hid (orL (l.drop j) = orL l) ∧ wr = w)
  case atStart => exact ⟨0, rfl, by omega, by rw [List.drop_zero]; rfl, rfl⟩
  case round =>
    obtain ⟨j, rfl, hj, HO, rfl⟩ := hrel
    cases gk with
    | zero =>
      have hji : ¬ (j : Int) < (l.length : Int) := by omega
      have HE : Hid (orL l = 0) := by
        show _ = _
        have := HO.out
        rw [List.drop_eq_nil_of_le (by omega)] at this
        exact this.symm
      go_wp2
      go_ret
      exact ⟨by rw [HE.out]; rfl, rfl⟩
    | succ g =>
      have hji : (j : Int) < (l.length : Int) := by omega
      have hjn : j < l.length := by omega
      have hc := HS.out j _ (List.getElem?_eq_getElem hjn)
      have hd := List.drop_eq_getElem_cons hjn
      obtain ⟨x, hx⟩ : ∃ x, l[j] = x := ⟨_, rfl⟩
      rw [hx] at hc hd
      have HD := Lib.hid hd
      clear hd hx
      by_cases h0 : x = 0
      · have HN : Hid (orL (l.drop (j + 1)) = orL l) := by
          show _ = _
          rw [← HO.out, HD.out]
          show _ = if x = 0 then orL (l.drop (j + 1)) else x
          rw [if_pos h0]
        subst h0
        have hz : ((0 : Int) != 0) = false := rfl
        go_wp2
        go_roundg g
        case measure => omega
        case rel => exact ⟨j + 1, by go_num, by omega, HN.out, rfl⟩
      · have hz : (x != 0) = true := by simpa using h0
        have HN : Hid (orL l = x) := by
          show _ = _
          rw [← HO.out, HD.out]
          show (if x = 0 then orL (l.drop (j + 1)) else x) = x
          rw [if_neg h0]
        clear h0
        go_wp2
        go_ret
        exact ⟨by rw [HN.out]; rfl, rfl⟩

/-- a triple in a box -/
def TrAt (W : World) (b : Nat) (e a k m : Int) (s : ByteArray) : Prop := W.heap[b]? = some (.cells #[.int .i64 e, .int .i64 a, .int .i64 k, .int .i64 m, .string s] 71 (0, 0))
theorem TrAt.cell {W : World} {b : Nat} {e a k m : Int} {s : ByteArray} (h : TrAt W b e a k m s) (j : Nat) : W.cell? ⟨b, j, none⟩ = (#[Value.int .i64 e, .int .i64 a, .int .i64 k, .int .i64 m, .string s])[j]? := by unfold TrAt at h; simp [World.cell?, h]
theorem TrAt.k0 {W : World} {b : Nat} {e a k m : Int} {s : ByteArray} (h : TrAt W b e a k m s) : W.cell? ⟨b, 0, none⟩ = some (.int .i64 e) := h.cell 0
theorem TrAt.k1 {W : World} {b : Nat} {e a k m : Int} {s : ByteArray} (h : TrAt W b e a k m s) : W.cell? ⟨b, 1, none⟩ = some (.int .i64 a) := h.cell 1
theorem TrAt.k2 {W : World} {b : Nat} {e a k m : Int} {s : ByteArray} (h : TrAt W b e a k m s) : W.cell? ⟨b, 2, none⟩ = some (.int .i64 k) := h.cell 2
theorem TrAt.k3 {W : World} {b : Nat} {e a k m : Int} {s : ByteArray} (h : TrAt W b e a k m s) : W.cell? ⟨b, 3, none⟩ = some (.int .i64 m) := h.cell 3
theorem TrAt.k4 {W : World} {b : Nat} {e a k m : Int} {s : ByteArray} (h : TrAt W b e a k m s) : W.cell? ⟨b, 4, none⟩ = some (.string s) := h.cell 4
theorem TrAt.lt {W : World} {b : Nat} {e a k m : Int} {s : ByteArray} (h : TrAt W b e a k m s) : b < W.heap.size := (Array.getElem?_eq_some_iff.1 h).1
theorem TrAt.next {W W' : World} {b : Nat} {e a k m : Int} {s : ByteArray} (h : TrAt W b e a k m s) (hb : Below W.heap.size W W') : TrAt W' b e a k m s := (hb.block b h.lt).trans h
theorem trAt_new (W : World) (e a k m : Int) (s : ByteArray) : TrAt (W.alloc (.cells #[.int .i64 e, .int .i64 a, .int .i64 k, .int .i64 m, .string s] 71)) W.heap.size e a k m s := heap_alloc_new W _
/-- two triples in boxes -/
def TrS (w : World) (b : Nat) (e a k m : Int) (s : ByteArray) (b' : Nat) (e' a' k' m' : Int) (s' : ByteArray) (W : World) : Prop := TrAt W b e a k m s ∧ TrAt W b' e' a' k' m' s' ∧ Below w.heap.size w W
theorem TrS.next {w W W' : World} {b : Nat} {e a k m : Int} {s : ByteArray} {b' : Nat} {e' a' k' m' : Int} {s' : ByteArray} (h : TrS w b e a k m s b' e' a' k' m' s' W) (hb : Below W.heap.size W W') : TrS w b e a k m s b' e' a' k' m' s' W' := ⟨h.1.next hb, h.2.1.next hb, h.2.2.trans (hb.mono h.2.2.size)⟩

theorem orL3 (e a k m e' a' k' m' : Int) (s s' : ByteArray) : orL [ordI e e', ordI a a', ordV k m s k' m' s'] = ordTr (e, a, k, m, s) (e', a', k', m', s') := by
  show (if ordI e e' = 0 then (if ordI a a' = 0 then (if ordV k m s k' m' s' = 0 then 0 else ordV k m s k' m' s') else ordI a a') else ordI e e') = if ordI e e' = 0 then (if ordI a a' = 0 then ordV k m s k' m' s' else ordI a a') else ordI e e'
  by_cases h : ordV k m s k' m' s' = 0
  · rw [if_pos h, h]
  · rw [if_neg h]
set_option maxRecDepth 100000 in
set_option maxHeartbeats 2000000 in
theorem trCmp_any (e a k m e' a' k' m' : Int) (s s' : ByteArray) (w : World) :
    Calls Tryz.prog 74 #[.agg #[.int .i64 e, .int .i64 a, .int .i64 k, .int .i64 m, .string s], .agg #[.int .i64 e', .int .i64 a', .int .i64 k', .int .i64 m', .string s']] w fun en w' => en = .returned (.int .i64 (ordTr (e, a, k, m, s) (e', a', k', m', s'))) ∧ Below w.heap.size w w' := by
  obtain ⟨w0, hw0⟩ : ∃ w0, (w.alloc (.cells #[.int .i64 e, .int .i64 a, .int .i64 k, .int .i64 m, .string s] 71)).alloc (.cells #[.int .i64 e', .int .i64 a', .int .i64 k', .int .i64 m', .string s'] 71) = w0 := ⟨_, rfl⟩
  have HB0 : Hid (Below w.heap.size w w0) := by rw [← hw0]; exact ((Below.refl _ w).alloc (Nat.le_refl _) _).alloc (by simp) _
  have HT : Hid (TrS w w.heap.size e a k m s (w.heap.size + 1) e' a' k' m' s' w0) := by
    refine ⟨?_, ?_, HB0.out⟩
    · rw [← hw0]; exact (trAt_new w e a k m s).next ((Below.refl _ _).alloc (Nat.le_refl _) _)
    · rw [← hw0]
      have := trAt_new (w.alloc (.cells #[.int .i64 e, .int .i64 a, .int .i64 k, .int .i64 m, .string s] 71)) e' a' k' m' s'
      rwa [World.size_alloc] at this
  have HE := Lib.hid (orL3 e a k m e' a' k' m' s s')
  go_enter Tryz.func74, Tryz.ntmps74
  go_upto_region 1 with (fail)
  try rw [hw0]
  clear hw0
  refine wp_region_held_drew (S := TrS w w.heap.size e a k m s (w.heap.size + 1) e' a' k' m' s') (by kernel_rfl) (HT.out.next (below_ind (Below.refl _ w0) 1)) (fun hHeld => ?_)
  refine takeV 0 (some 5) ((.pointer (some ⟨w.heap.size, 0, none⟩))) rfl rfl (by kernel_rfl) (by kernel_rfl) (by kernel_rfl) (fun _ _ _ h => h) (by rfl) (by (intro _w _hSw; (try dsimp only at _hSw); go_simp)) (by assumption) ?_
  simp only [Act.put, List.setIfInBounds_toArray, List.set_cons_zero, List.set_cons_succ]
  refine takeV 1 (some 6) ((.int .i64 e)) rfl rfl (by kernel_rfl) (by kernel_rfl) (by kernel_rfl) (fun _ _ _ h => h) (by rfl) (by (intro _w hSw; have q0 := hSw.1.k0; clear hSw; go_simp)) (by assumption) ?_
  simp only [Act.put, List.setIfInBounds_toArray, List.set_cons_zero, List.set_cons_succ]
  refine takeV 2 (some 7) ((.pointer (some ⟨w.heap.size + 1, 0, none⟩))) rfl rfl (by kernel_rfl) (by kernel_rfl) (by kernel_rfl) (fun _ _ _ h => h) (by rfl) (by (intro _w _hSw; (try dsimp only at _hSw); go_simp)) (by assumption) ?_
  simp only [Act.put, List.setIfInBounds_toArray, List.set_cons_zero, List.set_cons_succ]
  refine takeV 3 (some 8) ((.int .i64 e')) rfl rfl (by kernel_rfl) (by kernel_rfl) (by kernel_rfl) (fun _ _ _ h => h) (by rfl) (by (intro _w hSw; have q0 := hSw.2.1.k0; clear hSw; go_simp)) (by assumption) ?_
  simp only [Act.put, List.setIfInBounds_toArray, List.set_cons_zero, List.set_cons_succ]
  refine takeV 5 (some 10) ((.pointer (some ⟨w.heap.size, 1, none⟩))) rfl rfl (by kernel_rfl) (by kernel_rfl) (by kernel_rfl) (fun _ _ _ h => h) (by rfl) (by (intro _w _hSw; (try dsimp only at _hSw); go_simp)) (by assumption) ?_
  simp only [Act.put, List.setIfInBounds_toArray, List.set_cons_zero, List.set_cons_succ]
  refine takeV 6 (some 11) ((.int .i64 a)) rfl rfl (by kernel_rfl) (by kernel_rfl) (by kernel_rfl) (fun _ _ _ h => h) (by rfl) (by (intro _w hSw; have q0 := hSw.1.k1; clear hSw; go_simp)) (by assumption) ?_
  simp only [Act.put, List.setIfInBounds_toArray, List.set_cons_zero, List.set_cons_succ]
  refine takeV 7 (some 12) ((.pointer (some ⟨w.heap.size + 1, 1, none⟩))) rfl rfl (by kernel_rfl) (by kernel_rfl) (by kernel_rfl) (fun _ _ _ h => h) (by rfl) (by (intro _w _hSw; (try dsimp only at _hSw); go_simp)) (by assumption) ?_
  simp only [Act.put, List.setIfInBounds_toArray, List.set_cons_zero, List.set_cons_succ]
  refine takeV 8 (some 13) ((.int .i64 a')) rfl rfl (by kernel_rfl) (by kernel_rfl) (by kernel_rfl) (fun _ _ _ h => h) (by rfl) (by (intro _w hSw; have q0 := hSw.2.1.k1; clear hSw; go_simp)) (by assumption) ?_
  simp only [Act.put, List.setIfInBounds_toArray, List.set_cons_zero, List.set_cons_succ]
  refine takeV 10 (some 15) ((.pointer (some ⟨w.heap.size, 2, none⟩))) rfl rfl (by kernel_rfl) (by kernel_rfl) (by kernel_rfl) (fun _ _ _ h => h) (by rfl) (by (intro _w _hSw; (try dsimp only at _hSw); go_simp)) (by assumption) ?_
  simp only [Act.put, List.setIfInBounds_toArray, List.set_cons_zero, List.set_cons_succ]
  refine takeV 11 (some 16) ((.agg #[.int .i64 k, .int .i64 m, .string s])) rfl rfl (by kernel_rfl) (by kernel_rfl) (by kernel_rfl) (fun _ _ _ h => h) (by rfl) (by (intro _w hSw; have q0 := hSw.1.k2; have q1 := hSw.1.k3; have q2 := hSw.1.k4; clear hSw; go_simp)) (by assumption) ?_
  simp only [Act.put, List.setIfInBounds_toArray, List.set_cons_zero, List.set_cons_succ]
  refine takeV 12 (some 17) ((.pointer (some ⟨w.heap.size + 1, 2, none⟩))) rfl rfl (by kernel_rfl) (by kernel_rfl) (by kernel_rfl) (fun _ _ _ h => h) (by rfl) (by (intro _w _hSw; (try dsimp only at _hSw); go_simp)) (by assumption) ?_
  simp only [Act.put, List.setIfInBounds_toArray, List.set_cons_zero, List.set_cons_succ]
  refine takeV 13 (some 18) ((.agg #[.int .i64 k', .int .i64 m', .string s'])) rfl rfl (by kernel_rfl) (by kernel_rfl) (by kernel_rfl) (fun _ _ _ h => h) (by rfl) (by (intro _w hSw; have q0 := hSw.2.1.k2; have q1 := hSw.2.1.k3; have q2 := hSw.2.1.k4; clear hSw; go_simp)) (by assumption) ?_
  simp only [Act.put, List.setIfInBounds_toArray, List.set_cons_zero, List.set_cons_succ]
  refine callV 4 rfl (by kernel_rfl) (by rfl) (fun K hK => ?_)
  go_simp
  go_at_call 96
  refine (cmpI64_any e e' _).mono ?_
  rintro en w3 ⟨rfl, rfl⟩
  refine hK.out _ _ hHeld (fun hHeld => ?_)
  clear hK K
  try simp only [Act.put, List.setIfInBounds_toArray, List.set_cons_zero, List.set_cons_succ]
  refine callV 9 rfl (by kernel_rfl) (by rfl) (fun K hK => ?_)
  go_simp
  go_at_call 96
  refine (cmpI64_any a a' _).mono ?_
  rintro en w3 ⟨rfl, rfl⟩
  refine hK.out _ _ hHeld (fun hHeld => ?_)
  clear hK K
  try simp only [Act.put, List.setIfInBounds_toArray, List.set_cons_zero, List.set_cons_succ]
  refine callV 14 rfl (by kernel_rfl) (by rfl) (fun K hK => ?_)
  go_simp
  go_at_call 109
  refine (compare_any k m s k' m' s' _).mono ?_
  rintro en w3 ⟨rfl, hb3⟩
  have g3 := hHeld.next hb3
  refine hK.out _ _ g3 (fun hHeld => ?_)
  clear hK K g3 hb3
  try simp only [Act.put, List.setIfInBounds_toArray, List.set_cons_zero, List.set_cons_succ]
  refine callV 15 rfl (by kernel_rfl) (by rfl) (fun K hK => ?_)
  go_simp
  have hcl : ∀ (j : Nat) (v : Int), [ordI e e', ordI a a', ordV k m s k' m' s'][j]? = some v → (w3.alloc (.cells #[.int .i64 (ordI e e'), .int .i64 (ordI a a'), .int .i64 (ordV k m s k' m' s')] 3)).cell? ⟨w3.heap.size, j, none⟩ = some (.int .i64 v) := fun j v hv => by
    simp only [World.cell?, heap_alloc_new]
    match j, hv with
    | 0, hv | 1, hv | 2, hv => cases hv; rfl
  have hor := cmpOr_any w3.heap.size 3 [ordI e e', ordI a a', ordV k m s k' m' s'] _ hcl (by show 3 ≤ 1000; decide)
  rw [HE.out, show [ordI e e', ordI a a', ordV k m s k' m' s'].length = 3 from rfl] at hor
  refine hK.out _ _ (hHeld.next ((Below.refl _ _).alloc (Nat.le_refl _) _)) (fun hHeld => ?_)
  clear hK K hcl
  try simp only [Act.put, List.setIfInBounds_toArray, List.set_cons_zero, List.set_cons_succ]
  refine callV 16 rfl (by kernel_rfl) (by rfl) (fun K hK => ?_)
  go_simp
  go_at_call 108
  refine hor.mono ?_
  rintro en w5 ⟨rfl, rfl⟩
  refine hK.out _ _ hHeld (fun hHeld => ?_)
  clear hK K hor
  try simp only [Act.put, List.setIfInBounds_toArray, List.set_cons_zero, List.set_cons_succ]
  refine takeV 17 (some 4) ((.int .i64 (ordTr (e, a, k, m, s) (e', a', k', m', s')))) rfl rfl (by kernel_rfl) (by kernel_rfl) (by kernel_rfl) (fun _ _ _ h => h) (by rfl) (by (intro _w _hSw; (try dsimp only at _hSw); go_simp)) (by assumption) ?_
  simp only [Act.put, List.setIfInBounds_toArray, List.set_cons_zero, List.set_cons_succ]
  refine wpAnyH_done (by kernel_rfl) ?_ _
  have HBE := Lib.hid hHeld.2.2
  clear hHeld
  go_wp2
  go_ret
  exact ⟨rfl, HBE.out⟩

set_option maxRecDepth 100000 in
set_option maxHeartbeats 1000000 in
theorem trMay_any (f : FactP) (w : World) (hs : f.s.size ≤ maxLen) :
    Calls Tryz.prog 106 #[.agg #[.int .i64 f.e, .int .i64 f.a, .int .i64 f.k, .int .i64 f.m, .string f.s]] w fun en w' => en = .returned (.bool (mayD (datF f))) ∧ Below w.heap.size w w' := by
  have HC := Lib.hid (fun X => dCheck_any (datF f) X hs)
  obtain ⟨v, hv⟩ : ∃ v, mayD (datF f) = v := ⟨_, rfl⟩
  rw [hv] at HC ⊢
  clear hv
  go_enter Tryz.func106, Tryz.ntmps106
  go_wp2_with fail
  refine (HC.out _).mono ?_
  rintro en w1 ⟨rfl, hb⟩
  have HB := Lib.hid (((Below.refl _ w).alloc (Nat.le_refl _) (.cells #[.int .i64 f.e, .int .i64 f.a, .int .i64 f.k, .int .i64 f.m, .string f.s] 71)).trans (hb.mono (by simp)))
  clear hb HC
  cases v
  · go_wp2
    go_ret
    exact ⟨rfl, HB.out⟩
  · go_wp2
    go_ret
    exact ⟨rfl, HB.out⟩
set_option maxRecDepth 100000 in
theorem ofFact_any (f : FactP) (sv : Value) (w : World) (hsv : ∃ A n c, sv = .slice A n c) : Calls Tryz.prog 54 #[.agg #[.int .i64 f.e, .int .i64 f.a, .int .i64 f.k, .int .i64 f.m, .string f.s, sv]] w fun e w' => e = .returned (.agg #[.int .i64 f.e, .int .i64 f.a, .int .i64 f.k, .int .i64 f.m, .string f.s]) ∧ Below w.heap.size w w' := by
  obtain ⟨A, n, c, rfl⟩ := hsv
  go_enter Tryz.func54, Tryz.ntmps54
  go_wp2
  refine bodyPost_ret (v := .agg #[.int .i64 f.e, .int .i64 f.a, .int .i64 f.k, .int .i64 f.m, .string f.s]) ?_ rfl ⟨rfl, ?_⟩
  · rw [results_cell_only rfl]; go_simp
  · exact ((Below.refl _ w).alloc (Nat.le_refl _) _).alloc (by simp) _
/-- a fact in a box, the value of its spans named -/
def FcBx (W : World) (bx : Nat) (f : FactP) (sv : Value) : Prop := W.heap[bx]? = some (.cells #[.int .i64 f.e, .int .i64 f.a, .int .i64 f.k, .int .i64 f.m, .string f.s, sv] 51 (0, 0))
theorem FcBx.cell {W : World} {bx : Nat} {f : FactP} {sv : Value} (h : FcBx W bx f sv) (j : Nat) : W.cell? ⟨bx, j, none⟩ = (#[Value.int .i64 f.e, .int .i64 f.a, .int .i64 f.k, .int .i64 f.m, .string f.s, sv])[j]? := by unfold FcBx at h; simp [World.cell?, h]
theorem FcBx.k0 {W : World} {bx : Nat} {f : FactP} {sv : Value} (h : FcBx W bx f sv) : W.cell? ⟨bx, 0, none⟩ = some (.int .i64 f.e) := h.cell 0
theorem FcBx.k1 {W : World} {bx : Nat} {f : FactP} {sv : Value} (h : FcBx W bx f sv) : W.cell? ⟨bx, 1, none⟩ = some (.int .i64 f.a) := h.cell 1
theorem FcBx.k2 {W : World} {bx : Nat} {f : FactP} {sv : Value} (h : FcBx W bx f sv) : W.cell? ⟨bx, 2, none⟩ = some (.int .i64 f.k) := h.cell 2
theorem FcBx.k3 {W : World} {bx : Nat} {f : FactP} {sv : Value} (h : FcBx W bx f sv) : W.cell? ⟨bx, 3, none⟩ = some (.int .i64 f.m) := h.cell 3
theorem FcBx.k4 {W : World} {bx : Nat} {f : FactP} {sv : Value} (h : FcBx W bx f sv) : W.cell? ⟨bx, 4, none⟩ = some (.string f.s) := h.cell 4
theorem FcBx.k5 {W : World} {bx : Nat} {f : FactP} {sv : Value} (h : FcBx W bx f sv) : W.cell? ⟨bx, 5, none⟩ = some sv := h.cell 5
theorem FcBx.lt {W : World} {bx : Nat} {f : FactP} {sv : Value} (h : FcBx W bx f sv) : bx < W.heap.size := (Array.getElem?_eq_some_iff.1 h).1
theorem FcBx.next {W W' : World} {bx : Nat} {f : FactP} {sv : Value} (h : FcBx W bx f sv) (hb : Below W.heap.size W W') : FcBx W' bx f sv := (hb.block bx h.lt).trans h
theorem fcBx_new (W : World) (f : FactP) (sv : Value) : FcBx (W.alloc (.cells #[.int .i64 f.e, .int .i64 f.a, .int .i64 f.k, .int .i64 f.m, .string f.s, sv] 51)) W.heap.size f sv := heap_alloc_new W _
set_option maxRecDepth 100000 in
set_option maxHeartbeats 2000000 in
theorem isFact_any (f : FactP) (sv : Value) (w : World) (hsv : SVa w sv f.l) (hs : f.s.size ≤ maxLen) (hl : f.l.length ≤ 100000) :
    Calls Tryz.prog 73 #[.agg #[.int .i64 f.e, .int .i64 f.a, .int .i64 f.k, .int .i64 f.m, .string f.s, sv]] w fun e w' => e = .returned (.bool (mayF f)) ∧ Below w.heap.size w w' := by
  obtain ⟨A, c, rfl, hsl, _⟩ := id hsv
  have HM : Hid (mayF f = (mayD (datF f) && decide (0 < f.l.length) && setB f.l)) := rfl
  obtain ⟨w0, hw0⟩ : ∃ w0, w.alloc (.cells #[.int .i64 f.e, .int .i64 f.a, .int .i64 f.k, .int .i64 f.m, .string f.s, .slice A f.l.length c] 51) = w0 := ⟨_, rfl⟩
  have HB0 : Hid (Below w.heap.size w w0) := by rw [← hw0]; exact (Below.refl _ w).alloc (Nat.le_refl _) _
  have HX0 : Hid (FcBx w0 w.heap.size f (.slice A f.l.length c)) := by rw [← hw0]; exact fcBx_new w f _
  have HS := Lib.hid hsl
  have HO := Lib.hid (fun X => ofFact_any f (.slice A f.l.length c) X ⟨_, _, _, rfl⟩)
  have HT := Lib.hid (fun X => trMay_any f X hs)
  obtain ⟨v1, hv1⟩ : ∃ v, mayD (datF f) = v := ⟨_, rfl⟩
  obtain ⟨v3, hv3⟩ : ∃ v, setB f.l = v := ⟨_, rfl⟩
  rw [hv1] at HT HM
  have HC := Lib.hid (fun X (h : SlS X X.heap.size A f.l) => checkS_any A c f.l X h hl)
  rw [hv3] at HC HM
  have c0 := HX0.out.k0
  have c1 := HX0.out.k1
  have c2 := HX0.out.k2
  have c3 := HX0.out.k3
  have c4 := HX0.out.k4
  have c5 := HX0.out.k5
  clear hsv hsl hv1 hv3 hs
  go_enter Tryz.func73, Tryz.ntmps73
  go_upto_region 1 with (fail)
  try rw [hw0]
  clear hw0
  go_wp2_with fail
  refine (HO.out _).mono ?_
  rintro e w1 ⟨rfl, hb1⟩
  have HX1 := Lib.hid (HX0.out.next hb1)
  have HB1 := Lib.hid (HB0.out.trans (hb1.mono HB0.out.size))
  clear hb1 c0 c1 c2 c3 c4 c5
  go_wp2_with fail
  refine (HT.out _).mono ?_
  rintro e w2 ⟨rfl, hb2⟩
  have HX2 := Lib.hid (HX1.out.next hb2)
  have HB2 := Lib.hid (HB1.out.trans (hb2.mono HB1.out.size))
  clear hb2
  have c5 := HX2.out.k5
  have HS2 := Lib.hid ((HS.out.next HB2.out (Nat.le_refl _)).more HB2.out.size)
  have HC2 := Lib.hid (HC.out w2 HS2.out)
  cases v1
  · have HF : Hid (mayF f = false) := HM.out
    go_wp2
    go_ret
    exact ⟨by rw [HF.out]; rfl, HB2.out⟩
  · by_cases h0 : 0 < f.l.length
    · have hd0 : decide ((0 : Int) < (f.l.length : Int)) = true := decide_eq_true (by omega)
      have HF : Hid (mayF f = v3) := by show _ = _; rw [HM.out, decide_eq_true h0]; rfl
      go_wp2_with fail
      refine HC2.out.mono ?_
      rintro e w3 ⟨rfl, hb3⟩
      have HB3 := Lib.hid (HB2.out.trans (hb3.mono HB2.out.size))
      clear hb3
      cases v3
      · go_wp2
        go_ret
        exact ⟨by rw [HF.out]; rfl, HB3.out⟩
      · go_wp2
        go_ret
        exact ⟨by rw [HF.out]; rfl, HB3.out⟩
    · have hd0 : decide ((0 : Int) < (f.l.length : Int)) = false := decide_eq_false (by omega)
      have HF : Hid (mayF f = false) := by show _ = _; rw [HM.out, decide_eq_false h0]; rfl
      go_wp2
      go_ret
      exact ⟨by rw [HF.out]; rfl, HB2.out⟩

/-- what the loop over facts holds in a round -/
def FMS (w : World) (bx : Nat) (f : FactP) (sv : Value) (b o : Nat) (p : FactP) (pv : Value) (W : World) : Prop := FcBx W bx f sv ∧ SVa W sv f.l ∧ FcV W b o p pv ∧ b < W.heap.size ∧ Below w.heap.size w W
theorem FMS.next {w W W' : World} {bx : Nat} {f : FactP} {sv : Value} {b o : Nat} {p : FactP} {pv : Value} (h : FMS w bx f sv b o p pv W) (hb : Below W.heap.size W W') : FMS w bx f sv b o p pv W' :=
  ⟨h.1.next hb, h.2.1.next hb, h.2.2.1.next hb h.2.2.2.1, Nat.lt_of_lt_of_le h.2.2.2.1 hb.size, h.2.2.2.2.trans (hb.mono h.2.2.2.2.size)⟩
set_option maxRecDepth 100000 in
set_option maxHeartbeats 4000000 in
theorem mayFs_any (A : Option Addr) (c : Nat) (fs : List FactP) (w : World) (hs : FVa w (.slice A fs.length c) fs) (hl : fs.length ≤ 100000) (hz : ∀ f ∈ fs, f.s.size ≤ maxLen ∧ f.l.length ≤ 100000) :
    Calls Tryz.prog 47 #[.slice A fs.length c] w fun e w' => e = .returned (.bool (mayFs fs)) ∧ Below w.heap.size w w' := by
  have HS := Lib.hid hs
  have HZ := Lib.hid hz
  clear hs hz
  go_enter Tryz.func47, Tryz.ntmps47
  go_wp2
  go_loopg [3, 4, 7] fs.length (fun g x y z wr => ∃ (j : Nat), z = .int .i64 j ∧ j + g = fs.length ∧ Hid (∀ i, i < j → FOk fs i) ∧ Hid (Below w.heap.size w wr))
  case atStart => exact ⟨0, rfl, by omega, fun i hi => by omega, Below.refl _ _⟩
  case round =>
    obtain ⟨j, rfl, hj, HO, HB⟩ := hrel
    cases gk with
    | zero =>
      have hjz : ¬ ((j : Int) < (fs.length : Int)) := by omega
      have HE := Lib.hid (mayFs_all (fs := fs) (fun i hi => HO.out i (by omega)))
      go_wp2
      go_ret
      exact ⟨by rw [HE.out]; rfl, HB.out⟩
    | succ g =>
      have hjz : (j : Int) < (fs.length : Int) := by omega
      have hjn : j < fs.length := by omega
      have hfv := HS.out.next HB.out
      obtain ⟨b, o, sv, rfl, hlt, hc, hsv⟩ := fva_at hfv hjn
      obtain ⟨f, hf⟩ : ∃ f, fs[j] = f := ⟨_, rfl⟩
      rw [hf] at hc hsv
      have HFG : Hid (fs[j]? = some f) := by show _ = _; rw [List.getElem?_eq_getElem hjn, hf]
      have hzf := HZ.out f (by rw [← hf]; exact List.getElem_mem _)
      obtain ⟨As, cs, rfl, hsv'⟩ := id hsv
      have HSV : Hid (SVa wr (.slice As f.l.length cs) f.l) := ⟨As, cs, rfl, hsv'⟩
      have HFVR := Lib.hid hfv
      have HCV := Lib.hid hc
      have c0 := hc.1
      have c1 := hc.2.1
      have c2 := hc.2.2.1
      have c3 := hc.2.2.2.1
      have c4 := hc.2.2.2.2.1
      have c5 := hc.2.2.2.2.2
      have HBL := Lib.hid hlt
      have HIF := Lib.hid (fun X (h : SVa X (.slice As f.l.length cs) f.l) => isFact_any f (.slice As f.l.length cs) X h hzf.1 hzf.2)
      have HOF := Lib.hid (fun X => ofFact_any f (.slice As f.l.length cs) X ⟨_, _, _, rfl⟩)
      have HX := Lib.hid (fcBx_new wr f (.slice As f.l.length cs))
      have HBN := Lib.hid ((Below.refl wr.heap.size wr).alloc (Nat.le_refl _) (.cells #[.int .i64 f.e, .int .i64 f.a, .int .i64 f.k, .int .i64 f.m, .string f.s, .slice As f.l.length cs] 51))
      clear hf hc hsv hsv' hfv hlt
      cases hmv : mayF f
      · have HMV := Lib.hid hmv
        have HN := Lib.hid (mayFs_no (fs := fs) (i := j) (fun h => by have := (h f HFG.out).1; rw [hmv] at this; cases this))
        have HMS : Hid (FMS w wr.heap.size f (.slice As f.l.length cs) b (o + j * 6) f (.slice As f.l.length cs) (wr.alloc (.cells #[.int .i64 f.e, .int .i64 f.a, .int .i64 f.k, .int .i64 f.m, .string f.s, .slice As f.l.length cs] 51)).drew) := FMS.next ⟨HX.out, HSV.out.next HBN.out, HCV.out.next HBN.out HBL.out, Nat.lt_of_lt_of_le HBL.out HBN.out.size, HB.out.trans (HBN.out.mono HB.out.size)⟩ (below_ind (Below.refl _ _) 1)
        clear hmv
        go_wp2
        refine wp_region_held_drew (S := FMS w wr.heap.size f (.slice As f.l.length cs) b (o + j * 6) f (.slice As f.l.length cs)) (by kernel_rfl) HMS.out (fun hHeld => ?_)
        refine takeV 0 (some 12) ((.agg #[.int .i64 f.e, .int .i64 f.a, .int .i64 f.k, .int .i64 f.m, .string f.s, .slice As f.l.length cs])) rfl rfl (by kernel_rfl) (by kernel_rfl) (by kernel_rfl) (fun _ _ _ h => h) (by rfl) (by (intro _w hSw; have q0 := hSw.1.k0; have q1 := hSw.1.k1; have q2 := hSw.1.k2; have q3 := hSw.1.k3; have q4 := hSw.1.k4; have q5 := hSw.1.k5; clear hSw; go_simp)) (by assumption) ?_
        simp only [Act.put, List.setIfInBounds_toArray, List.set_cons_zero, List.set_cons_succ]
        refine callV 1 rfl (by kernel_rfl) (by rfl) (fun K hK => ?_)
        go_simp
        go_at_call 73
        refine (HIF.out _ hHeld.2.1).mono ?_
        rintro e w3 ⟨rfl, hb3⟩
        have g3 := hHeld.next hb3
        rw [HMV.out]
        refine hK.out _ _ g3 (fun hHeld => ?_)
        clear hK g3 K hb3
        try simp only [Act.put, List.setIfInBounds_toArray, List.set_cons_zero, List.set_cons_succ]
        refine takeV 2 (some 14) ((.bool true)) rfl rfl (by kernel_rfl) (by kernel_rfl) (by kernel_rfl) (fun _ _ _ h => h) (by rfl) (by (intro _w _hSw; (try dsimp only at _hSw); go_simp)) (by assumption) ?_
        simp only [Act.put, List.setIfInBounds_toArray, List.set_cons_zero, List.set_cons_succ]
        refine takeV 3 (some 15) ((.bool true)) rfl rfl (by kernel_rfl) (by kernel_rfl) (by kernel_rfl) (fun _ _ _ h => h) (by rfl) (by (intro _w _hSw; (try dsimp only at _hSw); go_simp)) (by assumption) ?_
        simp only [Act.put, List.setIfInBounds_toArray, List.set_cons_zero, List.set_cons_succ]
        refine skipV 4 (some 16) rfl rfl (by kernel_rfl) (by kernel_rfl) (by kernel_rfl) (fun _ _ _ h => h) (by rfl) (by assumption) ?_
        simp only [Act.put, List.setIfInBounds_toArray, List.set_cons_zero, List.set_cons_succ]
        refine skipV 5 (some 17) rfl rfl (by kernel_rfl) (by kernel_rfl) (by kernel_rfl) (fun _ _ _ h => h) (by rfl) (by assumption) ?_
        simp only [Act.put, List.setIfInBounds_toArray, List.set_cons_zero, List.set_cons_succ]
        refine skipV 6 (some 18) rfl rfl (by kernel_rfl) (by kernel_rfl) (by kernel_rfl) (fun _ _ _ h => h) (by rfl) (by assumption) ?_
        simp only [Act.put, List.setIfInBounds_toArray, List.set_cons_zero, List.set_cons_succ]
        refine skipV 7 (some 19) rfl rfl (by kernel_rfl) (by kernel_rfl) (by kernel_rfl) (fun _ _ _ h => h) (by rfl) (by assumption) ?_
        simp only [Act.put, List.setIfInBounds_toArray, List.set_cons_zero, List.set_cons_succ]
        refine skipV 8 (some 20) rfl rfl (by kernel_rfl) (by kernel_rfl) (by kernel_rfl) (fun _ _ _ h => h) (by rfl) (by assumption) ?_
        simp only [Act.put, List.setIfInBounds_toArray, List.set_cons_zero, List.set_cons_succ]
        refine skipV 9 (some 21) rfl rfl (by kernel_rfl) (by kernel_rfl) (by kernel_rfl) (fun _ _ _ h => h) (by rfl) (by assumption) ?_
        simp only [Act.put, List.setIfInBounds_toArray, List.set_cons_zero, List.set_cons_succ]
        refine skipV 10 (some 22) rfl rfl (by kernel_rfl) (by kernel_rfl) (by kernel_rfl) (fun _ _ _ h => h) (by rfl) (by assumption) ?_
        simp only [Act.put, List.setIfInBounds_toArray, List.set_cons_zero, List.set_cons_succ]
        refine skipV 11 (some 23) rfl rfl (by kernel_rfl) (by kernel_rfl) (by kernel_rfl) (fun _ _ _ h => h) (by rfl) (by assumption) ?_
        simp only [Act.put, List.setIfInBounds_toArray, List.set_cons_zero, List.set_cons_succ]
        refine skipV 12 (some 24) rfl rfl (by kernel_rfl) (by kernel_rfl) (by kernel_rfl) (fun _ _ _ h => h) (by rfl) (by assumption) ?_
        simp only [Act.put, List.setIfInBounds_toArray, List.set_cons_zero, List.set_cons_succ]
        refine skipV 13 (some 25) rfl rfl (by kernel_rfl) (by kernel_rfl) (by kernel_rfl) (fun _ _ _ h => h) (by rfl) (by assumption) ?_
        simp only [Act.put, List.setIfInBounds_toArray, List.set_cons_zero, List.set_cons_succ]
        refine skipV 14 (some 26) rfl rfl (by kernel_rfl) (by kernel_rfl) (by kernel_rfl) (fun _ _ _ h => h) (by rfl) (by assumption) ?_
        simp only [Act.put, List.setIfInBounds_toArray, List.set_cons_zero, List.set_cons_succ]
        refine skipV 15 (some 27) rfl rfl (by kernel_rfl) (by kernel_rfl) (by kernel_rfl) (fun _ _ _ h => h) (by rfl) (by assumption) ?_
        simp only [Act.put, List.setIfInBounds_toArray, List.set_cons_zero, List.set_cons_succ]
        refine skipV 16 (some 28) rfl rfl (by kernel_rfl) (by kernel_rfl) (by kernel_rfl) (fun _ _ _ h => h) (by rfl) (by assumption) ?_
        simp only [Act.put, List.setIfInBounds_toArray, List.set_cons_zero, List.set_cons_succ]
        refine skipV 17 (some 29) rfl rfl (by kernel_rfl) (by kernel_rfl) (by kernel_rfl) (fun _ _ _ h => h) (by rfl) (by assumption) ?_
        simp only [Act.put, List.setIfInBounds_toArray, List.set_cons_zero, List.set_cons_succ]
        refine takeV 18 (some 30) ((.bool true)) rfl rfl (by kernel_rfl) (by kernel_rfl) (by kernel_rfl) (fun _ _ _ h => h) (by rfl) (by (intro _w _hSw; (try dsimp only at _hSw); go_simp)) (by assumption) ?_
        simp only [Act.put, List.setIfInBounds_toArray, List.set_cons_zero, List.set_cons_succ]
        refine wpAnyH_done (by kernel_rfl) ?_ _
        have HBZ := Lib.hid hHeld.2.2.2.2
        clear hHeld
        go_wp2
        go_ret
        exact ⟨by rw [HN.out]; rfl, HBZ.out⟩
      · have HMV := Lib.hid hmv
        cases j with
        | zero =>
          have HY : Hid (∀ i, i < 0 + 1 → FOk fs i) := fun i hi f' hf' => by
            obtain rfl : i = 0 := by omega
            rw [HFG.out] at hf'
            cases hf'
            exact ⟨HMV.out, fun p hi => by omega⟩
          have HMS : Hid (FMS w wr.heap.size f (.slice As f.l.length cs) b (o + 0 * 6) f (.slice As f.l.length cs) (wr.alloc (.cells #[.int .i64 f.e, .int .i64 f.a, .int .i64 f.k, .int .i64 f.m, .string f.s, .slice As f.l.length cs] 51)).drew) := FMS.next ⟨HX.out, HSV.out.next HBN.out, HCV.out.next HBN.out HBL.out, Nat.lt_of_lt_of_le HBL.out HBN.out.size, HB.out.trans (HBN.out.mono HB.out.size)⟩ (below_ind (Below.refl _ _) 1)
          clear hmv
          simp only [Nat.zero_mul, Nat.add_zero] at c0 c1 c2 c3 c4 c5
          go_wp2
          refine wp_region_held_drew (S := FMS w wr.heap.size f (.slice As f.l.length cs) b (o + 0 * 6) f (.slice As f.l.length cs)) (by kernel_rfl) HMS.out (fun hHeld => ?_)
          refine takeV 0 (some 12) ((.agg #[.int .i64 f.e, .int .i64 f.a, .int .i64 f.k, .int .i64 f.m, .string f.s, .slice As f.l.length cs])) rfl rfl (by kernel_rfl) (by kernel_rfl) (by kernel_rfl) (fun _ _ _ h => h) (by rfl) (by (intro _w hSw; have q0 := hSw.1.k0; have q1 := hSw.1.k1; have q2 := hSw.1.k2; have q3 := hSw.1.k3; have q4 := hSw.1.k4; have q5 := hSw.1.k5; clear hSw; go_simp)) (by assumption) ?_
          simp only [Act.put, List.setIfInBounds_toArray, List.set_cons_zero, List.set_cons_succ]
          refine callV 1 rfl (by kernel_rfl) (by rfl) (fun K hK => ?_)
          go_simp
          go_at_call 73
          refine (HIF.out _ hHeld.2.1).mono ?_
          rintro e w3 ⟨rfl, hb3⟩
          have g3 := hHeld.next hb3
          rw [HMV.out]
          refine hK.out _ _ g3 (fun hHeld => ?_)
          clear hK g3 K hb3
          try simp only [Act.put, List.setIfInBounds_toArray, List.set_cons_zero, List.set_cons_succ]
          refine takeV 2 (some 14) ((.bool false)) rfl rfl (by kernel_rfl) (by kernel_rfl) (by kernel_rfl) (fun _ _ _ h => h) (by rfl) (by (intro _w _hSw; (try dsimp only at _hSw); go_simp)) (by assumption) ?_
          simp only [Act.put, List.setIfInBounds_toArray, List.set_cons_zero, List.set_cons_succ]
          refine takeV 3 (some 15) ((.bool false)) rfl rfl (by kernel_rfl) (by kernel_rfl) (by kernel_rfl) (fun _ _ _ h => h) (by rfl) (by (intro _w _hSw; (try dsimp only at _hSw); go_simp)) (by assumption) ?_
          simp only [Act.put, List.setIfInBounds_toArray, List.set_cons_zero, List.set_cons_succ]
          refine takeV 4 (some 16) ((.int .i64 0)) rfl rfl (by kernel_rfl) (by kernel_rfl) (by kernel_rfl) (fun _ _ _ h => h) (by rfl) (by (intro _w _hSw; (try dsimp only at _hSw); go_simp)) (by assumption) ?_
          simp only [Act.put, List.setIfInBounds_toArray, List.set_cons_zero, List.set_cons_succ]
          refine takeV 5 (some 17) ((.bool false)) rfl rfl (by kernel_rfl) (by kernel_rfl) (by kernel_rfl) (fun _ _ _ h => h) (by rfl) (by (intro _w _hSw; (try dsimp only at _hSw); go_simp)) (by assumption) ?_
          simp only [Act.put, List.setIfInBounds_toArray, List.set_cons_zero, List.set_cons_succ]
          refine takeV 6 (some 18) ((.bool false)) rfl rfl (by kernel_rfl) (by kernel_rfl) (by kernel_rfl) (fun _ _ _ h => h) (by rfl) (by (intro _w _hSw; (try dsimp only at _hSw); go_simp)) (by assumption) ?_
          simp only [Act.put, List.setIfInBounds_toArray, List.set_cons_zero, List.set_cons_succ]
          refine skipV 7 (some 19) rfl rfl (by kernel_rfl) (by kernel_rfl) (by kernel_rfl) (fun _ _ _ h => h) (by rfl) (by assumption) ?_
          simp only [Act.put, List.setIfInBounds_toArray, List.set_cons_zero, List.set_cons_succ]
          refine skipV 8 (some 20) rfl rfl (by kernel_rfl) (by kernel_rfl) (by kernel_rfl) (fun _ _ _ h => h) (by rfl) (by assumption) ?_
          simp only [Act.put, List.setIfInBounds_toArray, List.set_cons_zero, List.set_cons_succ]
          refine skipV 9 (some 21) rfl rfl (by kernel_rfl) (by kernel_rfl) (by kernel_rfl) (fun _ _ _ h => h) (by rfl) (by assumption) ?_
          simp only [Act.put, List.setIfInBounds_toArray, List.set_cons_zero, List.set_cons_succ]
          refine skipV 10 (some 22) rfl rfl (by kernel_rfl) (by kernel_rfl) (by kernel_rfl) (fun _ _ _ h => h) (by rfl) (by assumption) ?_
          simp only [Act.put, List.setIfInBounds_toArray, List.set_cons_zero, List.set_cons_succ]
          refine skipV 11 (some 23) rfl rfl (by kernel_rfl) (by kernel_rfl) (by kernel_rfl) (fun _ _ _ h => h) (by rfl) (by assumption) ?_
          simp only [Act.put, List.setIfInBounds_toArray, List.set_cons_zero, List.set_cons_succ]
          refine skipV 12 (some 24) rfl rfl (by kernel_rfl) (by kernel_rfl) (by kernel_rfl) (fun _ _ _ h => h) (by rfl) (by assumption) ?_
          simp only [Act.put, List.setIfInBounds_toArray, List.set_cons_zero, List.set_cons_succ]
          refine skipV 13 (some 25) rfl rfl (by kernel_rfl) (by kernel_rfl) (by kernel_rfl) (fun _ _ _ h => h) (by rfl) (by assumption) ?_
          simp only [Act.put, List.setIfInBounds_toArray, List.set_cons_zero, List.set_cons_succ]
          refine skipV 14 (some 26) rfl rfl (by kernel_rfl) (by kernel_rfl) (by kernel_rfl) (fun _ _ _ h => h) (by rfl) (by assumption) ?_
          simp only [Act.put, List.setIfInBounds_toArray, List.set_cons_zero, List.set_cons_succ]
          refine skipV 15 (some 27) rfl rfl (by kernel_rfl) (by kernel_rfl) (by kernel_rfl) (fun _ _ _ h => h) (by rfl) (by assumption) ?_
          simp only [Act.put, List.setIfInBounds_toArray, List.set_cons_zero, List.set_cons_succ]
          refine skipV 16 (some 28) rfl rfl (by kernel_rfl) (by kernel_rfl) (by kernel_rfl) (fun _ _ _ h => h) (by rfl) (by assumption) ?_
          simp only [Act.put, List.setIfInBounds_toArray, List.set_cons_zero, List.set_cons_succ]
          refine takeV 17 (some 29) ((.bool false)) rfl rfl (by kernel_rfl) (by kernel_rfl) (by kernel_rfl) (fun _ _ _ h => h) (by rfl) (by (intro _w _hSw; (try dsimp only at _hSw); go_simp)) (by assumption) ?_
          simp only [Act.put, List.setIfInBounds_toArray, List.set_cons_zero, List.set_cons_succ]
          refine takeV 18 (some 30) ((.bool false)) rfl rfl (by kernel_rfl) (by kernel_rfl) (by kernel_rfl) (fun _ _ _ h => h) (by rfl) (by (intro _w _hSw; (try dsimp only at _hSw); go_simp)) (by assumption) ?_
          simp only [Act.put, List.setIfInBounds_toArray, List.set_cons_zero, List.set_cons_succ]
          refine wpAnyH_done (by kernel_rfl) ?_ _
          have HBZ := Lib.hid hHeld.2.2.2.2
          clear hHeld
          go_wp2
          go_roundg g
          case measure => omega
          case rel => exact ⟨0 + 1, rfl, by omega, HY.out, HBZ.out⟩
        | succ k =>
          have hkl : k < fs.length := by omega
          obtain ⟨b', o', pv, e9, _, hcp, hpv⟩ := fva_at HFVR.out hkl
          cases e9
          obtain ⟨p, hp⟩ : ∃ p, fs[k] = p := ⟨_, rfl⟩
          rw [hp] at hcp hpv
          have HPG : Hid (fs[k]? = some p) := by show _ = _; rw [List.getElem?_eq_getElem hkl, hp]
          obtain ⟨Ap, cp, rfl, _⟩ := hpv
          have HOP := Lib.hid (fun X => ofFact_any p (.slice Ap p.l.length cp) X ⟨_, _, _, rfl⟩)
          have hk0 : (0 : Int) < ((k + 1 : Nat) : Int) := by omega
          have hki : (k : Int) < (fs.length : Int) := by omega
          have hwr : IntKind.i64.wrap (k : Int) = (k : Int) := by
            rw [IntWalk.i64_in _ (by omega)]
          have HMS : Hid (FMS w wr.heap.size f (.slice As f.l.length cs) b (o + k * 6) p (.slice Ap p.l.length cp) (wr.alloc (.cells #[.int .i64 f.e, .int .i64 f.a, .int .i64 f.k, .int .i64 f.m, .string f.s, .slice As f.l.length cs] 51)).drew) := FMS.next ⟨HX.out, HSV.out.next HBN.out, hcp.next HBN.out HBL.out, Nat.lt_of_lt_of_le HBL.out HBN.out.size, HB.out.trans (HBN.out.mono HB.out.size)⟩ (below_ind (Below.refl _ _) 1)
          clear hmv hp hcp
          by_cases hle : ordTr (triF p) (triF f) < 0
          · have hd : decide ((0 : Int) ≤ ordTr (p.e, p.a, p.k, p.m, p.s) (f.e, f.a, f.k, f.m, f.s)) = false := decide_eq_false (by have : ordTr (p.e, p.a, p.k, p.m, p.s) (f.e, f.a, f.k, f.m, f.s) < 0 := hle; omega)
            have HY : Hid (∀ i, i < k + 1 + 1 → FOk fs i) := fun i hi => by
              by_cases hik : i = k + 1
              · subst hik
                intro f' hf'
                rw [HFG.out] at hf'
                cases hf'
                refine ⟨HMV.out, fun q _ hq => ?_⟩
                rw [show k + 1 - 1 = k by omega, HPG.out] at hq
                cases hq
                exact hle
              · exact HO.out i (by omega)
            clear hle
            go_wp2
            refine wp_region_held_drew (S := FMS w wr.heap.size f (.slice As f.l.length cs) b (o + k * 6) p (.slice Ap p.l.length cp)) (by kernel_rfl) HMS.out (fun hHeld => ?_)
            refine takeV 0 (some 12) ((.agg #[.int .i64 f.e, .int .i64 f.a, .int .i64 f.k, .int .i64 f.m, .string f.s, .slice As f.l.length cs])) rfl rfl (by kernel_rfl) (by kernel_rfl) (by kernel_rfl) (fun _ _ _ h => h) (by rfl) (by (intro _w hSw; have q0 := hSw.1.k0; have q1 := hSw.1.k1; have q2 := hSw.1.k2; have q3 := hSw.1.k3; have q4 := hSw.1.k4; have q5 := hSw.1.k5; clear hSw; go_simp)) (by assumption) ?_
            simp only [Act.put, List.setIfInBounds_toArray, List.set_cons_zero, List.set_cons_succ]
            refine callV 1 rfl (by kernel_rfl) (by rfl) (fun K hK => ?_)
            go_simp
            go_at_call 73
            refine (HIF.out _ hHeld.2.1).mono ?_
            rintro e w3 ⟨rfl, hb3⟩
            have g3 := hHeld.next hb3
            rw [HMV.out]
            refine hK.out _ _ g3 (fun hHeld => ?_)
            clear hK g3 K hb3
            try simp only [Act.put, List.setIfInBounds_toArray, List.set_cons_zero, List.set_cons_succ]
            refine takeV 2 (some 14) ((.bool false)) rfl rfl (by kernel_rfl) (by kernel_rfl) (by kernel_rfl) (fun _ _ _ h => h) (by rfl) (by (intro _w _hSw; (try dsimp only at _hSw); go_simp)) (by assumption) ?_
            simp only [Act.put, List.setIfInBounds_toArray, List.set_cons_zero, List.set_cons_succ]
            refine takeV 3 (some 15) ((.bool false)) rfl rfl (by kernel_rfl) (by kernel_rfl) (by kernel_rfl) (fun _ _ _ h => h) (by rfl) (by (intro _w _hSw; (try dsimp only at _hSw); go_simp)) (by assumption) ?_
            simp only [Act.put, List.setIfInBounds_toArray, List.set_cons_zero, List.set_cons_succ]
            refine takeV 4 (some 16) ((.int .i64 ((k + 1 : Nat) : Int))) rfl rfl (by kernel_rfl) (by kernel_rfl) (by kernel_rfl) (fun _ _ _ h => h) (by rfl) (by (intro _w _hSw; (try dsimp only at _hSw); go_simp)) (by assumption) ?_
            simp only [Act.put, List.setIfInBounds_toArray, List.set_cons_zero, List.set_cons_succ]
            refine takeV 5 (some 17) ((.bool true)) rfl rfl (by kernel_rfl) (by kernel_rfl) (by kernel_rfl) (fun _ _ _ h => h) (by rfl) (by (intro _w _hSw; (try dsimp only at _hSw); go_simp)) (by assumption) ?_
            simp only [Act.put, List.setIfInBounds_toArray, List.set_cons_zero, List.set_cons_succ]
            refine takeV 6 (some 18) ((.bool true)) rfl rfl (by kernel_rfl) (by kernel_rfl) (by kernel_rfl) (fun _ _ _ h => h) (by rfl) (by (intro _w _hSw; (try dsimp only at _hSw); go_simp)) (by assumption) ?_
            simp only [Act.put, List.setIfInBounds_toArray, List.set_cons_zero, List.set_cons_succ]
            refine takeV 7 (some 19) ((.slice (some ⟨b, o, none⟩) fs.length c)) rfl rfl (by kernel_rfl) (by kernel_rfl) (by kernel_rfl) (fun _ _ _ h => h) (by rfl) (by (intro _w _hSw; (try dsimp only at _hSw); go_simp)) (by assumption) ?_
            simp only [Act.put, List.setIfInBounds_toArray, List.set_cons_zero, List.set_cons_succ]
            refine takeV 8 (some 20) ((.int .i64 ((k + 1 : Nat) : Int))) rfl rfl (by kernel_rfl) (by kernel_rfl) (by kernel_rfl) (fun _ _ _ h => h) (by rfl) (by (intro _w _hSw; (try dsimp only at _hSw); go_simp)) (by assumption) ?_
            simp only [Act.put, List.setIfInBounds_toArray, List.set_cons_zero, List.set_cons_succ]
            refine takeV 9 (some 21) ((.int .i64 (k : Int))) rfl rfl (by kernel_rfl) (by kernel_rfl) (by kernel_rfl) (fun _ _ _ h => h) (by rfl) (by (intro _w _hSw; (try dsimp only at _hSw); go_simp)) (by assumption) ?_
            simp only [Act.put, List.setIfInBounds_toArray, List.set_cons_zero, List.set_cons_succ]
            refine takeV 10 (some 22) ((.pointer (some ⟨b, o + k * 6, none⟩))) rfl rfl (by kernel_rfl) (by kernel_rfl) (by kernel_rfl) (fun _ _ _ h => h) (by rfl) (by (intro _w _hSw; (try dsimp only at _hSw); go_simp)) (by assumption) ?_
            simp only [Act.put, List.setIfInBounds_toArray, List.set_cons_zero, List.set_cons_succ]
            refine takeV 11 (some 23) ((.agg #[.int .i64 p.e, .int .i64 p.a, .int .i64 p.k, .int .i64 p.m, .string p.s, .slice Ap p.l.length cp])) rfl rfl (by kernel_rfl) (by kernel_rfl) (by kernel_rfl) (fun _ _ _ h => h) (by rfl) (by (intro _w hSw; have q0 := hSw.2.2.1.1; have q1 := hSw.2.2.1.2.1; have q2 := hSw.2.2.1.2.2.1; have q3 := hSw.2.2.1.2.2.2.1; have q4 := hSw.2.2.1.2.2.2.2.1; have q5 := hSw.2.2.1.2.2.2.2.2; clear hSw; go_simp)) (by assumption) ?_
            simp only [Act.put, List.setIfInBounds_toArray, List.set_cons_zero, List.set_cons_succ]
            refine takeV 13 (some 25) ((.agg #[.int .i64 f.e, .int .i64 f.a, .int .i64 f.k, .int .i64 f.m, .string f.s, .slice As f.l.length cs])) rfl rfl (by kernel_rfl) (by kernel_rfl) (by kernel_rfl) (fun _ _ _ h => h) (by rfl) (by (intro _w hSw; have q0 := hSw.1.k0; have q1 := hSw.1.k1; have q2 := hSw.1.k2; have q3 := hSw.1.k3; have q4 := hSw.1.k4; have q5 := hSw.1.k5; clear hSw; go_simp)) (by assumption) ?_
            simp only [Act.put, List.setIfInBounds_toArray, List.set_cons_zero, List.set_cons_succ]
            refine callV 12 rfl (by kernel_rfl) (by rfl) (fun K hK => ?_)
            go_simp
            go_at_call 54
            refine (HOP.out _).mono ?_
            rintro e w4 ⟨rfl, hb4⟩
            have g4 := hHeld.next hb4
            refine hK.out _ _ g4 (fun hHeld => ?_)
            clear hK g4 K hb4
            try simp only [Act.put, List.setIfInBounds_toArray, List.set_cons_zero, List.set_cons_succ]
            refine callV 14 rfl (by kernel_rfl) (by rfl) (fun K hK => ?_)
            go_simp
            go_at_call 54
            refine (HOF.out _).mono ?_
            rintro e w4 ⟨rfl, hb4⟩
            have g4 := hHeld.next hb4
            refine hK.out _ _ g4 (fun hHeld => ?_)
            clear hK g4 K hb4
            try simp only [Act.put, List.setIfInBounds_toArray, List.set_cons_zero, List.set_cons_succ]
            refine callV 15 rfl (by kernel_rfl) (by rfl) (fun K hK => ?_)
            go_simp
            go_at_call 74
            refine (trCmp_any _ _ _ _ _ _ _ _ _ _ _).mono ?_
            rintro e w5 ⟨rfl, hb5⟩
            have g5 := hHeld.next hb5
            refine hK.out _ _ g5 (fun hHeld => ?_)
            clear hK g5 K hb5
            try simp only [Act.put, List.setIfInBounds_toArray, List.set_cons_zero, List.set_cons_succ]
            refine takeV 16 (some 28) ((.bool false)) rfl rfl (by kernel_rfl) (by kernel_rfl) (by kernel_rfl) (fun _ _ _ h => h) (by rfl) (by (intro _w _hSw; (try dsimp only at _hSw); go_simp)) (by assumption) ?_
            simp only [Act.put, List.setIfInBounds_toArray, List.set_cons_zero, List.set_cons_succ]
            refine takeV 17 (some 29) ((.bool false)) rfl rfl (by kernel_rfl) (by kernel_rfl) (by kernel_rfl) (fun _ _ _ h => h) (by rfl) (by (intro _w _hSw; (try dsimp only at _hSw); go_simp)) (by assumption) ?_
            simp only [Act.put, List.setIfInBounds_toArray, List.set_cons_zero, List.set_cons_succ]
            refine takeV 18 (some 30) ((.bool false)) rfl rfl (by kernel_rfl) (by kernel_rfl) (by kernel_rfl) (fun _ _ _ h => h) (by rfl) (by (intro _w _hSw; (try dsimp only at _hSw); go_simp)) (by assumption) ?_
            simp only [Act.put, List.setIfInBounds_toArray, List.set_cons_zero, List.set_cons_succ]
            refine wpAnyH_done (by kernel_rfl) ?_ _
            have HBZ := Lib.hid hHeld.2.2.2.2
            clear hHeld
            go_wp2
            go_roundg g
            case measure => omega
            case rel => exact ⟨k + 1 + 1, by go_num, by omega, HY.out, HBZ.out⟩
          · have hd : decide ((0 : Int) ≤ ordTr (p.e, p.a, p.k, p.m, p.s) (f.e, f.a, f.k, f.m, f.s)) = true := decide_eq_true (by have : ¬ ordTr (p.e, p.a, p.k, p.m, p.s) (f.e, f.a, f.k, f.m, f.s) < 0 := hle; omega)
            have HN := Lib.hid (mayFs_no (fs := fs) (i := k + 1) (fun h => hle ((h f HFG.out).2 p (by omega) (by rw [show k + 1 - 1 = k by omega]; exact HPG.out))))
            clear hle
            go_wp2
            refine wp_region_held_drew (S := FMS w wr.heap.size f (.slice As f.l.length cs) b (o + k * 6) p (.slice Ap p.l.length cp)) (by kernel_rfl) HMS.out (fun hHeld => ?_)
            refine takeV 0 (some 12) ((.agg #[.int .i64 f.e, .int .i64 f.a, .int .i64 f.k, .int .i64 f.m, .string f.s, .slice As f.l.length cs])) rfl rfl (by kernel_rfl) (by kernel_rfl) (by kernel_rfl) (fun _ _ _ h => h) (by rfl) (by (intro _w hSw; have q0 := hSw.1.k0; have q1 := hSw.1.k1; have q2 := hSw.1.k2; have q3 := hSw.1.k3; have q4 := hSw.1.k4; have q5 := hSw.1.k5; clear hSw; go_simp)) (by assumption) ?_
            simp only [Act.put, List.setIfInBounds_toArray, List.set_cons_zero, List.set_cons_succ]
            refine callV 1 rfl (by kernel_rfl) (by rfl) (fun K hK => ?_)
            go_simp
            go_at_call 73
            refine (HIF.out _ hHeld.2.1).mono ?_
            rintro e w3 ⟨rfl, hb3⟩
            have g3 := hHeld.next hb3
            rw [HMV.out]
            refine hK.out _ _ g3 (fun hHeld => ?_)
            clear hK g3 K hb3
            try simp only [Act.put, List.setIfInBounds_toArray, List.set_cons_zero, List.set_cons_succ]
            refine takeV 2 (some 14) ((.bool false)) rfl rfl (by kernel_rfl) (by kernel_rfl) (by kernel_rfl) (fun _ _ _ h => h) (by rfl) (by (intro _w _hSw; (try dsimp only at _hSw); go_simp)) (by assumption) ?_
            simp only [Act.put, List.setIfInBounds_toArray, List.set_cons_zero, List.set_cons_succ]
            refine takeV 3 (some 15) ((.bool false)) rfl rfl (by kernel_rfl) (by kernel_rfl) (by kernel_rfl) (fun _ _ _ h => h) (by rfl) (by (intro _w _hSw; (try dsimp only at _hSw); go_simp)) (by assumption) ?_
            simp only [Act.put, List.setIfInBounds_toArray, List.set_cons_zero, List.set_cons_succ]
            refine takeV 4 (some 16) ((.int .i64 ((k + 1 : Nat) : Int))) rfl rfl (by kernel_rfl) (by kernel_rfl) (by kernel_rfl) (fun _ _ _ h => h) (by rfl) (by (intro _w _hSw; (try dsimp only at _hSw); go_simp)) (by assumption) ?_
            simp only [Act.put, List.setIfInBounds_toArray, List.set_cons_zero, List.set_cons_succ]
            refine takeV 5 (some 17) ((.bool true)) rfl rfl (by kernel_rfl) (by kernel_rfl) (by kernel_rfl) (fun _ _ _ h => h) (by rfl) (by (intro _w _hSw; (try dsimp only at _hSw); go_simp)) (by assumption) ?_
            simp only [Act.put, List.setIfInBounds_toArray, List.set_cons_zero, List.set_cons_succ]
            refine takeV 6 (some 18) ((.bool true)) rfl rfl (by kernel_rfl) (by kernel_rfl) (by kernel_rfl) (fun _ _ _ h => h) (by rfl) (by (intro _w _hSw; (try dsimp only at _hSw); go_simp)) (by assumption) ?_
            simp only [Act.put, List.setIfInBounds_toArray, List.set_cons_zero, List.set_cons_succ]
            refine takeV 7 (some 19) ((.slice (some ⟨b, o, none⟩) fs.length c)) rfl rfl (by kernel_rfl) (by kernel_rfl) (by kernel_rfl) (fun _ _ _ h => h) (by rfl) (by (intro _w _hSw; (try dsimp only at _hSw); go_simp)) (by assumption) ?_
            simp only [Act.put, List.setIfInBounds_toArray, List.set_cons_zero, List.set_cons_succ]
            refine takeV 8 (some 20) ((.int .i64 ((k + 1 : Nat) : Int))) rfl rfl (by kernel_rfl) (by kernel_rfl) (by kernel_rfl) (fun _ _ _ h => h) (by rfl) (by (intro _w _hSw; (try dsimp only at _hSw); go_simp)) (by assumption) ?_
            simp only [Act.put, List.setIfInBounds_toArray, List.set_cons_zero, List.set_cons_succ]
            refine takeV 9 (some 21) ((.int .i64 (k : Int))) rfl rfl (by kernel_rfl) (by kernel_rfl) (by kernel_rfl) (fun _ _ _ h => h) (by rfl) (by (intro _w _hSw; (try dsimp only at _hSw); go_simp)) (by assumption) ?_
            simp only [Act.put, List.setIfInBounds_toArray, List.set_cons_zero, List.set_cons_succ]
            refine takeV 10 (some 22) ((.pointer (some ⟨b, o + k * 6, none⟩))) rfl rfl (by kernel_rfl) (by kernel_rfl) (by kernel_rfl) (fun _ _ _ h => h) (by rfl) (by (intro _w _hSw; (try dsimp only at _hSw); go_simp)) (by assumption) ?_
            simp only [Act.put, List.setIfInBounds_toArray, List.set_cons_zero, List.set_cons_succ]
            refine takeV 11 (some 23) ((.agg #[.int .i64 p.e, .int .i64 p.a, .int .i64 p.k, .int .i64 p.m, .string p.s, .slice Ap p.l.length cp])) rfl rfl (by kernel_rfl) (by kernel_rfl) (by kernel_rfl) (fun _ _ _ h => h) (by rfl) (by (intro _w hSw; have q0 := hSw.2.2.1.1; have q1 := hSw.2.2.1.2.1; have q2 := hSw.2.2.1.2.2.1; have q3 := hSw.2.2.1.2.2.2.1; have q4 := hSw.2.2.1.2.2.2.2.1; have q5 := hSw.2.2.1.2.2.2.2.2; clear hSw; go_simp)) (by assumption) ?_
            simp only [Act.put, List.setIfInBounds_toArray, List.set_cons_zero, List.set_cons_succ]
            refine takeV 13 (some 25) ((.agg #[.int .i64 f.e, .int .i64 f.a, .int .i64 f.k, .int .i64 f.m, .string f.s, .slice As f.l.length cs])) rfl rfl (by kernel_rfl) (by kernel_rfl) (by kernel_rfl) (fun _ _ _ h => h) (by rfl) (by (intro _w hSw; have q0 := hSw.1.k0; have q1 := hSw.1.k1; have q2 := hSw.1.k2; have q3 := hSw.1.k3; have q4 := hSw.1.k4; have q5 := hSw.1.k5; clear hSw; go_simp)) (by assumption) ?_
            simp only [Act.put, List.setIfInBounds_toArray, List.set_cons_zero, List.set_cons_succ]
            refine callV 12 rfl (by kernel_rfl) (by rfl) (fun K hK => ?_)
            go_simp
            go_at_call 54
            refine (HOP.out _).mono ?_
            rintro e w4 ⟨rfl, hb4⟩
            have g4 := hHeld.next hb4
            refine hK.out _ _ g4 (fun hHeld => ?_)
            clear hK g4 K hb4
            try simp only [Act.put, List.setIfInBounds_toArray, List.set_cons_zero, List.set_cons_succ]
            refine callV 14 rfl (by kernel_rfl) (by rfl) (fun K hK => ?_)
            go_simp
            go_at_call 54
            refine (HOF.out _).mono ?_
            rintro e w4 ⟨rfl, hb4⟩
            have g4 := hHeld.next hb4
            refine hK.out _ _ g4 (fun hHeld => ?_)
            clear hK g4 K hb4
            try simp only [Act.put, List.setIfInBounds_toArray, List.set_cons_zero, List.set_cons_succ]
            refine callV 15 rfl (by kernel_rfl) (by rfl) (fun K hK => ?_)
            go_simp
            go_at_call 74
            refine (trCmp_any _ _ _ _ _ _ _ _ _ _ _).mono ?_
            rintro e w5 ⟨rfl, hb5⟩
            have g5 := hHeld.next hb5
            refine hK.out _ _ g5 (fun hHeld => ?_)
            clear hK g5 K hb5
            try simp only [Act.put, List.setIfInBounds_toArray, List.set_cons_zero, List.set_cons_succ]
            refine takeV 16 (some 28) ((.bool true)) rfl rfl (by kernel_rfl) (by kernel_rfl) (by kernel_rfl) (fun _ _ _ h => h) (by rfl) (by (intro _w _hSw; (try dsimp only at _hSw); go_simp)) (by assumption) ?_
            simp only [Act.put, List.setIfInBounds_toArray, List.set_cons_zero, List.set_cons_succ]
            refine takeV 17 (some 29) ((.bool true)) rfl rfl (by kernel_rfl) (by kernel_rfl) (by kernel_rfl) (fun _ _ _ h => h) (by rfl) (by (intro _w _hSw; (try dsimp only at _hSw); go_simp)) (by assumption) ?_
            simp only [Act.put, List.setIfInBounds_toArray, List.set_cons_zero, List.set_cons_succ]
            refine takeV 18 (some 30) ((.bool true)) rfl rfl (by kernel_rfl) (by kernel_rfl) (by kernel_rfl) (fun _ _ _ h => h) (by rfl) (by (intro _w _hSw; (try dsimp only at _hSw); go_simp)) (by assumption) ?_
            simp only [Act.put, List.setIfInBounds_toArray, List.set_cons_zero, List.set_cons_succ]
            refine wpAnyH_done (by kernel_rfl) ?_ _
            have HBZ := Lib.hid hHeld.2.2.2.2
            clear hHeld
            go_wp2
            go_ret
            exact ⟨by rw [HN.out]; rfl, HBZ.out⟩

set_option maxRecDepth 100000 in
set_option maxHeartbeats 400000 in
theorem checkF_any (A : Option Addr) (c : Nat) (fs : List FactP) (w : World) (hs : FVa w (.slice A fs.length c) fs) (hl : fs.length ≤ 100000) (hz : ∀ f ∈ fs, f.s.size ≤ maxLen ∧ f.l.length ≤ 100000) :
    Calls Tryz.prog 23 #[.slice A fs.length c] w fun e w' => e = .returned (.int .i64 (if mayFs fs = true then 0 else 60)) ∧ Below w.heap.size w w' := by
  have HC := Lib.hid (mayFs_any A c fs w hs hl hz)
  obtain ⟨v, hv⟩ : ∃ v, mayFs fs = v := ⟨_, rfl⟩
  rw [hv] at HC ⊢
  clear hs hz hv
  go_enter Tryz.func23, Tryz.ntmps23
  go_wp2_with fail
  refine HC.out.mono ?_
  rintro e w1 ⟨rfl, hb⟩
  have HB := Lib.hid hb
  clear hb HC
  cases v
  · go_wp2
    go_ret
    exact ⟨rfl, HB.out⟩
  · go_wp2
    go_ret
    exact ⟨rfl, HB.out⟩
end Go.Proofs.YthhkabbgghepbaaGreat

/-
  CONTRACTS: slices.Clone at spans; facts.Spans.
-/
namespace Go.Proofs.YthhkabbgghepbaaGreat
open Go.RowKit Go.Shelf

theorem ownS_zero' (W : World) (B : Nat) (hB : B ≤ W.heap.size) : OwnS (W.alloc (.cells #[] 53)) B (.slice (some ⟨W.heap.size, 0, none⟩) 0 0) [] :=
  ⟨rfl, .inr ⟨W.heap.size, 0, #[], rfl, hB, heap_alloc_new W _, Nat.le_refl _, Nat.zero_le _, rfl, rfl⟩⟩
set_option maxRecDepth 100000 in
set_option maxHeartbeats 1000000 in
theorem cloneS_some (ad : Addr) (c : Nat) (l : List Sp) (w : World) (hs : SlS w w.heap.size (some ad) l) (hl : l.length ≤ 100000) :
    Calls Tryz.prog 53 #[.slice (some ad) l.length c] w fun e w' => ∃ v, e = .returned v ∧ OwnS w' w.heap.size v l ∧ Below w.heap.size w w' := by
  obtain ⟨i0, hi, hz0, hz1, hz2⟩ := info_parts info92
  have hmx : 100001 ≤ maxLen := by decide
  have HL0 := Lib.hid (ownS_zero' w w.heap.size (Nat.le_refl _))
  have HNW : Hid (∀ a', some ad = some a' → ∀ j u, (l.flatMap cellsS)[j]? = some u → (w.alloc (.cells #[] 53)).cell? (a'.add j) = some u) := fun a' h j u hu => (hs.next ((Below.refl _ _).alloc (Nat.le_refl _) _) (Nat.le_refl _)).news a' h j u hu
  clear hs
  have he := fun w => Lib.run_eql_slice_nil (P := Tryz.prog) w 49 53 (some ad) l.length c 0 0 Tryz.underlying49
  simp only [Option.isNone_some] at he
  go_enter Tryz.func53, Tryz.ntmps53
  go_wp2_with (at_builtin; refine wpList_append_any rfl _ _ 49 rfl w.heap.size 53 i0 (.agg #[.int .i64 0, .int .i64 0]) 2 16 Tryz.underlying49 hi hz0 hz1 hz2 rfl (by decide) _ _ _ rfl HL0.out (some ad) l.length c (l.flatMap cellsS) rfl (flatS_len l) (fun h => by cases h) HNW.out (cellsS_all l) (by simp; omega) (by simp; omega) (by simp) ?_; intro v1 w1 hown' hgrow; have HV1 : Hid (OwnS w1 w.heap.size v1 l) := ownS_of (a := []) hown'; have HB1 := Lib.hid (((Below.refl w.heap.size w).alloc (Nat.le_refl _) (.cells #[] 53)).trans (below_ownS HL0.out hgrow (by simp))); clear hown' hgrow)
  go_ret
  exact ⟨_, rfl, HV1.out, HB1.out⟩
set_option maxRecDepth 100000 in
set_option maxHeartbeats 400000 in
theorem cloneS_none (c : Nat) (w : World) :
    Calls Tryz.prog 53 #[.slice none 0 c] w fun e w' => e = .returned (.slice none 0 0) ∧ w = w' := by
  have he := fun w => Lib.run_eql_slice_nil (P := Tryz.prog) w 49 53 none 0 c 0 0 Tryz.underlying49
  simp only [Option.isNone_none] at he
  go_enter Tryz.func53, Tryz.ntmps53
  go_wp2
  go_ret
  exact ⟨rfl, rfl⟩
theorem cloneS_any (A : Option Addr) (c : Nat) (l : List Sp) (w : World) (hs : SlS w w.heap.size A l) (hl : l.length ≤ 100000) :
    Calls Tryz.prog 53 #[.slice A l.length c] w fun e w' => ∃ v, e = .returned v ∧ OwnS w' w.heap.size v l ∧ Below w.heap.size w w' := by
  cases A with
  | some ad => exact cloneS_some ad c l w hs hl
  | none =>
    have : l = [] := by
      cases l with
      | nil => rfl
      | cons x r =>
        obtain ⟨b, o, e, _⟩ := hs (by simp)
        cases e
    subst this
    refine (cloneS_none c w).mono ?_
    rintro e w' ⟨rfl, rfl⟩
    exact ⟨_, rfl, World.ownsRow_nil _ _ _ _, Below.refl _ _⟩

/-- What facts.Spans answers. -/
def SpEnd (w : World) (fs : List FactP) (x : Int × Int × Int × Int × ByteArray) (en : Ending) (w' : World) : Prop :=
  (∃ v ec, en = .returned (.tuple #[v, .int .i64 ec]) ∧ ((mayFs fs = true ∧ ec = 0 ∧ SV w' v (spansOf fs x)) ∨ (mayFs fs = false ∧ ec = 60 ∧ v = .slice none 0 0))) ∧ Below w.heap.size w w'
/-- a value in a box -/
def VBx (W : World) (b : Nat) (k m : Int) (s : ByteArray) : Prop := W.heap[b]? = some (.cells #[.int .i64 k, .int .i64 m, .string s] 43 (0, 0))
theorem VBx.cell {W : World} {b : Nat} {k m : Int} {s : ByteArray} (h : VBx W b k m s) (j : Nat) : W.cell? ⟨b, j, none⟩ = (#[Value.int .i64 k, .int .i64 m, .string s])[j]? := by unfold VBx at h; simp [World.cell?, h]
theorem VBx.k0 {W : World} {b : Nat} {k m : Int} {s : ByteArray} (h : VBx W b k m s) : W.cell? ⟨b, 0, none⟩ = some (.int .i64 k) := h.cell 0
theorem VBx.k1 {W : World} {b : Nat} {k m : Int} {s : ByteArray} (h : VBx W b k m s) : W.cell? ⟨b, 1, none⟩ = some (.int .i64 m) := h.cell 1
theorem VBx.k2 {W : World} {b : Nat} {k m : Int} {s : ByteArray} (h : VBx W b k m s) : W.cell? ⟨b, 2, none⟩ = some (.string s) := h.cell 2
theorem VBx.next {W W' : World} {b : Nat} {k m : Int} {s : ByteArray} (h : VBx W b k m s) (hb : Below W.heap.size W W') : VBx W' b k m s := (hb.block b (Array.getElem?_eq_some_iff.1 h).1).trans h
def FSS (w0 : World) (bx : Nat) (f : FactP) (sv : Value) (bv : Nat) (k m : Int) (s : ByteArray) (W : World) : Prop := FcBx W bx f sv ∧ SVa W sv f.l ∧ VBx W bv k m s ∧ Below w0.heap.size w0 W
theorem FSS.next {w0 W W' : World} {bx : Nat} {f : FactP} {sv : Value} {bv : Nat} {k m : Int} {s : ByteArray} (h : FSS w0 bx f sv bv k m s W) (hb : Below W.heap.size W W') : FSS w0 bx f sv bv k m s W' :=
  ⟨h.1.next hb, h.2.1.next hb, h.2.2.1.next hb, h.2.2.2.trans (hb.mono h.2.2.2.size)⟩
set_option maxRecDepth 100000 in
set_option maxHeartbeats 4000000 in
theorem spansF_any (A : Option Addr) (c : Nat) (fs : List FactP) (e a k m : Int) (s : ByteArray) (w : World) (hs : FVa w (.slice A fs.length c) fs) (hl : fs.length ≤ 100000) (hz : ∀ f ∈ fs, f.s.size ≤ maxLen ∧ f.l.length ≤ 100000) :
    Calls Tryz.prog 25 #[.slice A fs.length c, .int .i64 e, .int .i64 a, .agg #[.int .i64 k, .int .i64 m, .string s]] w (SpEnd w fs (e, a, k, m, s)) := by
  obtain ⟨w0, hw0⟩ : ∃ w0, w.alloc (.cells #[.int .i64 k, .int .i64 m, .string s] 43) = w0 := ⟨_, rfl⟩
  have hb0 : Below w.heap.size w w0 := by rw [← hw0]; exact (Below.refl _ w).alloc (Nat.le_refl _) _
  have HB0 := Lib.hid hb0
  have HV0 : Hid (VBx w0 w.heap.size k m s) := by rw [← hw0]; exact heap_alloc_new w _
  have HS0 := Lib.hid (hs.next hb0)
  have HC := Lib.hid (mayFs_any A c fs w0 HS0.out hl hz)
  have HZ := Lib.hid hz
  have HX : Hid (∃ x, x = (e, a, k, m, s)) := ⟨_, rfl⟩
  clear hs hz hb0
  obtain ⟨v, hv⟩ : ∃ v, mayFs fs = v := ⟨_, rfl⟩
  rw [hv] at HC
  have HMV := Lib.hid hv
  clear hv
  go_enter Tryz.func25, Tryz.ntmps25
  go_upto_region 1 with (fail)
  try rw [hw0]
  clear hw0
  go_wp2_with fail
  refine HC.out.mono ?_
  rintro en w1 ⟨rfl, hb1⟩
  have HB1 := Lib.hid (HB0.out.trans (hb1.mono HB0.out.size))
  have HV1 := Lib.hid (HV0.out.next hb1)
  have HS1 := Lib.hid (HS0.out.next hb1)
  clear hb1 HC
  cases v
  · go_wp2
    go_ret2
    exact ⟨⟨_, _, rfl, .inr ⟨HMV.out, rfl, rfl⟩⟩, HB1.out⟩
  · have HRI : Hid (RiseF fs) := (of_decide_eq_true HMV.out).2
    go_wp2
    go_loopg [11, 17] fs.length (fun g x y wr => ∃ (j : Nat), y = .int .i64 j ∧ j + g = fs.length ∧ Hid (∀ i f, i < j → fs[i]? = some f → triF f ≠ (e, a, k, m, s)) ∧ Hid (Below w1.heap.size w1 wr))
    case atStart => exact ⟨0, rfl, by omega, fun i f hi => by omega, Below.refl _ _⟩
    case round =>
      obtain ⟨j, rfl, hj, HO, HB⟩ := hrel
      cases gk with
      | zero =>
        have hjz : ¬ ((j : Int) < (fs.length : Int)) := by omega
        have HE : Hid (spansOf fs (e, a, k, m, s) = []) := spansOf_none fun f hf => by
          obtain ⟨i, hi, rfl⟩ := List.mem_iff_getElem.1 hf
          exact HO.out i _ (by omega) (List.getElem?_eq_getElem hi)
        have HBW := Lib.hid (HB1.out.trans (HB.out.mono HB1.out.size))
        go_wp2
        go_ret2
        exact ⟨⟨_, _, rfl, .inl ⟨HMV.out, rfl, by rw [HE.out]; exact ⟨none, 0, rfl, fun h => absurd rfl h, Nat.le_refl _, Nat.zero_le _, fun h => absurd rfl h⟩⟩⟩, HBW.out⟩
      | succ g =>
        have hjz : (j : Int) < (fs.length : Int) := by omega
        have hjn : j < fs.length := by omega
        obtain ⟨b, o, sv, rfl, hlt, hc, hsv⟩ := fva_at (HS1.out.next HB.out) hjn
        obtain ⟨f, hf⟩ : ∃ f, fs[j] = f := ⟨_, rfl⟩
        rw [hf] at hc hsv
        have HFG : Hid (fs[j]? = some f) := by show _ = _; rw [List.getElem?_eq_getElem hjn, hf]
        have hzf := HZ.out f (by rw [← hf]; exact List.getElem_mem _)
        obtain ⟨As, cs, rfl, hsv'⟩ := id hsv
        have HSV : Hid (SVa wr (.slice As f.l.length cs) f.l) := ⟨As, cs, rfl, hsv'⟩
        have c0 := hc.1
        have c1 := hc.2.1
        have c2 := hc.2.2.1
        have c3 := hc.2.2.2.1
        have c4 := hc.2.2.2.2.1
        have c5 := hc.2.2.2.2.2
        have HOF := Lib.hid (fun X => ofFact_any f (.slice As f.l.length cs) X ⟨_, _, _, rfl⟩)
        have HCL := Lib.hid (fun X (h : SlS X X.heap.size As f.l) => cloneS_any As cs f.l X h hzf.2)
        have HX := Lib.hid (fcBx_new wr f (.slice As f.l.length cs))
        have HBN := Lib.hid ((Below.refl wr.heap.size wr).alloc (Nat.le_refl _) (.cells #[.int .i64 f.e, .int .i64 f.a, .int .i64 f.k, .int .i64 f.m, .string f.s, .slice As f.l.length cs] 51))
        have HMS : Hid (FSS w1 wr.heap.size f (.slice As f.l.length cs) w.heap.size k m s (wr.alloc (.cells #[.int .i64 f.e, .int .i64 f.a, .int .i64 f.k, .int .i64 f.m, .string f.s, .slice As f.l.length cs] 51)).drew) := FSS.next ⟨HX.out, HSV.out.next HBN.out, (HV1.out.next HB.out).next HBN.out, HB.out.trans (HBN.out.mono HB.out.size)⟩ (below_ind (Below.refl _ _) 1)
        have hq := fun X => eqTri (datF f) ⟨e, a, k, m, s, 0, false, 0, 0⟩ X
        unfold triV datF at hq
        simp only at hq
        obtain ⟨t, ht⟩ : ∃ t, decide (triD ⟨f.e, f.a, f.k, f.m, f.s, 1, false, 0, 1⟩ = triD ⟨e, a, k, m, s, 0, false, 0, 0⟩) = t := ⟨_, rfl⟩
        rw [ht] at hq
        have HT : Hid (decide (triF f = (e, a, k, m, s)) = t) := ht
        clear hf hc hsv hsv' hlt ht
        go_wp2
        refine wp_region_held_drew (S := FSS w1 wr.heap.size f (.slice As f.l.length cs) w.heap.size k m s) (by kernel_rfl) HMS.out (fun hHeld => ?_)
        refine takeV 0 (some 21) ((.agg #[.int .i64 f.e, .int .i64 f.a, .int .i64 f.k, .int .i64 f.m, .string f.s, .slice As f.l.length cs])) rfl rfl (by kernel_rfl) (by kernel_rfl) (by kernel_rfl) (fun _ _ _ h => h) (by rfl) (by (intro _w hSw; have q0 := hSw.1.k0; have q1 := hSw.1.k1; have q2 := hSw.1.k2; have q3 := hSw.1.k3; have q4 := hSw.1.k4; have q5 := hSw.1.k5; clear hSw; go_simp)) (by assumption) ?_
        simp only [Act.put, List.setIfInBounds_toArray, List.set_cons_zero, List.set_cons_succ]
        refine takeV 2 (some 23) ((.int .i64 e)) rfl rfl (by kernel_rfl) (by kernel_rfl) (by kernel_rfl) (fun _ _ _ h => h) (by rfl) (by (intro _w _hSw; (try dsimp only at _hSw); go_simp)) (by assumption) ?_
        simp only [Act.put, List.setIfInBounds_toArray, List.set_cons_zero, List.set_cons_succ]
        refine takeV 3 (some 24) ((.int .i64 a)) rfl rfl (by kernel_rfl) (by kernel_rfl) (by kernel_rfl) (fun _ _ _ h => h) (by rfl) (by (intro _w _hSw; (try dsimp only at _hSw); go_simp)) (by assumption) ?_
        simp only [Act.put, List.setIfInBounds_toArray, List.set_cons_zero, List.set_cons_succ]
        refine takeV 4 (some 25) ((.agg #[.int .i64 k, .int .i64 m, .string s])) rfl rfl (by kernel_rfl) (by kernel_rfl) (by kernel_rfl) (fun _ _ _ h => h) (by rfl) (by (intro _w hSw; have q0 := hSw.2.2.1.k0; have q1 := hSw.2.2.1.k1; have q2 := hSw.2.2.1.k2; clear hSw; go_simp)) (by assumption) ?_
        simp only [Act.put, List.setIfInBounds_toArray, List.set_cons_zero, List.set_cons_succ]
        refine takeV 5 (some 26) ((.agg #[.int .i64 e, .int .i64 a, .int .i64 k, .int .i64 m, .string s])) rfl rfl (by kernel_rfl) (by kernel_rfl) (by kernel_rfl) (fun _ _ _ h => h) (by rfl) (by (intro _w _hSw; (try dsimp only at _hSw); go_simp)) (by assumption) ?_
        simp only [Act.put, List.setIfInBounds_toArray, List.set_cons_zero, List.set_cons_succ]
        refine callV 1 rfl (by kernel_rfl) (by rfl) (fun K hK => ?_)
        go_simp
        go_at_call 54
        refine (HOF.out _).mono ?_
        rintro en w3 ⟨rfl, hb3⟩
        have g3 := hHeld.next hb3
        refine hK.out _ _ g3 (fun hHeld => ?_)
        clear hK g3 K hb3
        try simp only [Act.put, List.setIfInBounds_toArray, List.set_cons_zero, List.set_cons_succ]
        refine takeV 6 (some 27) ((.bool t)) rfl rfl (by kernel_rfl) (by kernel_rfl) (by kernel_rfl) (fun _ _ _ h => h) (by rfl) (by (intro _w _hSw; (try dsimp only at _hSw); go_simp)) (by assumption) ?_
        simp only [Act.put, List.setIfInBounds_toArray, List.set_cons_zero, List.set_cons_succ]
        refine wpAnyH_done (by kernel_rfl) ?_ _
        have HHE := Lib.hid hHeld
        clear hHeld
        cases t
        · have HNE : Hid (∀ i f, i < j + 1 → fs[i]? = some f → triF f ≠ (e, a, k, m, s)) := fun i f' hi hf' => by
            by_cases hij : i = j
            · subst hij
              rw [HFG.out] at hf'
              cases hf'
              exact of_decide_eq_false HT.out
            · exact HO.out i f' (by omega) hf'
          have HBZ := Lib.hid HHE.out.2.2.2
          go_wp2
          go_roundg g
          case measure => omega
          case rel => exact ⟨j + 1, by go_num, by omega, HNE.out, HBZ.out⟩
        · have HE : Hid (spansOf fs (e, a, k, m, s) = f.l) := by
            show _ = _
            rw [← of_decide_eq_true HT.out]
            exact spansOf_mem HRI.out (List.mem_of_getElem? HFG.out)
          have c5 := HHE.out.1.k5
          obtain ⟨As2, cs2, e2, hsl2, _⟩ := HHE.out.2.1
          cases e2
          have HCL2 := Lib.hid (HCL.out _ hsl2)
          have HBZ := Lib.hid (HB1.out.trans (HHE.out.2.2.2.mono HB1.out.size))
          clear hsl2
          go_wp2_with fail
          refine HCL2.out.mono ?_
          rintro en w4 ⟨v4, rfl, ho4, hb4⟩
          have HB4 := Lib.hid (HBZ.out.trans (hb4.mono HBZ.out.size))
          have HO4 := Lib.hid (ownS_sv ho4)
          clear ho4 hb4
          go_wp2
          go_ret2
          exact ⟨⟨_, _, rfl, .inl ⟨HMV.out, rfl, by rw [HE.out]; exact HO4.out⟩⟩, HB4.out⟩
end Go.Proofs.YthhkabbgghepbaaGreat

/-
  CONTRACT: facts.At.
-/
namespace Go.Proofs.YthhkabbgghepbaaGreat
open Go.RowKit Go.Shelf

theorem cellsF_one {f : FactP} {sv : Value} (h : ∃ A n c, sv = .slice A n c) : ∀ u ∈ cellsF (f, sv), u.oneCell' = true := fun u hu => by
  obtain ⟨A, n, c, rfl⟩ := h
  simp [cellsF] at hu
  rcases hu with rfl | rfl | rfl | rfl | rfl | rfl <;> rfl
theorem OwnF.boxAt {W : World} {B bx : Nat} {v u : Value} {ps : List (FactP × Value)} {f : FactP} {sv : Value} (h : OwnF W B v ps) (hb : FcBx W bx f sv) (hne : ∀ g, v.ownBlock = some g → g ≠ bx) : OwnF (W.setCell ⟨bx, 5, none⟩ u) B v ps := by
  have hg : W.grownBy (W.setCell ⟨bx, 5, none⟩ u) (some bx) := ⟨rfl, rfl, rfl, by simp, fun k _ h => Below.heap_setCell W ⟨bx, 5, none⟩ u k (fun e => h (by rw [e]))⟩
  refine ⟨World.ownsRow.kept h.1 hg (.inr fun e => hne bx e rfl), fun p hp => (h.2 p hp).off hg fun r e cs fr hc => ?_⟩
  cases e
  rw [show W.heap[bx]? = _ from hb] at hc
  injection hc with hc
  injection hc with _ h2 _
  exact absurd h2 (by decide)
theorem OwnF.push {W w1 : World} {B : Nat} {v v' : Value} {ps : List (FactP × Value)} {f : FactP} {vi : Value} {tmp : Obj} (h : OwnF W B v ps) (hi : SV W vi f.l)
    (hown' : w1.ownsRow B 51 6 v' (ps.length + 1) (ps.flatMap cellsF ++ cellsF (f, vi))) (hgrow : (W.alloc tmp).grownBy w1 v.ownBlock) : OwnF w1 B v' (ps ++ [(f, vi)]) := by
  have hr := World.ownsRow.alloc h.1 tmp
  refine ⟨by simpa using hown', fun p hp => ?_⟩
  have hp2 : SV W p.2 p.1.l := by
    rcases List.mem_append.1 hp with hp | hp
    · exact h.2 p hp
    · rw [List.mem_singleton.1 hp]; exact hi
  exact (hp2.alloc tmp).other hr (by decide) hgrow
/-- those that hold at an instant -/
def atL (t : Int) (fs : List FactP) : List FactP := fs.filter fun f => innB f.l t
set_option maxRecDepth 100000 in
set_option maxHeartbeats 4000000 in
theorem at_any (t : Int) (A : Option Addr) (c : Nat) (fs : List FactP) (w : World) (hs : FVa w (.slice A fs.length c) fs) (hl : fs.length ≤ 100000) (hz : ∀ f ∈ fs, f.s.size ≤ maxLen ∧ f.l.length ≤ 100000) :
    Calls Tryz.prog 21 #[.slice A fs.length c, .int .i64 t] w fun e w' => (∃ v ec, e = .returned (.tuple #[v, .int .i64 ec]) ∧ ((mayFs fs = true ∧ ec = 0 ∧ FV w' v (atL t fs)) ∨ (mayFs fs = false ∧ ec = 60 ∧ v = .slice none 0 0))) ∧ Below w.heap.size w w' := by
  obtain ⟨i0, hi, hz0, hz1, hz2⟩ := info_parts infoF
  have hmx : 2000000000000 ≤ maxLen := by decide
  have HC := Lib.hid (mayFs_any A c fs w hs hl hz)
  have HS0 := Lib.hid hs
  have HZ := Lib.hid hz
  clear hs hz
  obtain ⟨v, hv⟩ : ∃ v, mayFs fs = v := ⟨_, rfl⟩
  rw [hv] at HC
  have HMV := Lib.hid hv
  clear hv
  go_enter Tryz.func21, Tryz.ntmps21
  go_wp2_with fail
  refine HC.out.mono ?_
  rintro en w1 ⟨rfl, hb1⟩
  have HB1 := Lib.hid hb1
  have HS1 := Lib.hid (HS0.out.next hb1)
  clear hb1 HC HS0
  cases v
  · go_wp2
    go_ret2
    exact ⟨⟨_, _, rfl, .inr ⟨HMV.out, rfl, rfl⟩⟩, HB1.out⟩
  go_wp2
  go_loopg [6, 8, 14] fs.length (fun g x6 _ x14 wr => ∃ (j : Nat) (ps : List (FactP × Value)), OwnF wr w1.heap.size x6 ps ∧ x14 = .int .i64 j ∧ j + g = fs.length ∧ Hid (ps.map (·.1) = atL t (fs.take j)) ∧ ps.length ≤ j ∧ Hid (Below w1.heap.size w1 wr))
  case atStart => exact ⟨0, [], ownF_nil _ _, rfl, by omega, rfl, Nat.le_refl _, Below.refl _ _⟩
  case round =>
    obtain ⟨j, ps, ho, rfl, hj, HP, hpl, HB⟩ := hrel
    cases gk with
    | zero =>
      have hjz : ¬ ((j : Int) < (fs.length : Int)) := by omega
      have HE : Hid (ps.map (·.1) = atL t fs) := by
        have := HP.out
        rwa [List.take_of_length_le (by omega)] at this
      have hfv := ho.fv
      rw [HE.out] at hfv
      obtain ⟨A9, c9, rfl, _⟩ := id hfv
      have HFV := Lib.hid hfv
      have HBW := Lib.hid (HB1.out.trans (HB.out.mono HB1.out.size))
      clear hfv ho
      go_wp2
      go_ret2
      exact ⟨⟨_, _, rfl, .inl ⟨HMV.out, rfl, HFV.out⟩⟩, HBW.out⟩
    | succ g =>
      have hjz : (j : Int) < (fs.length : Int) := by omega
      have hjn : j < fs.length := by omega
      obtain ⟨b, o, sv, rfl, hlt, hc, hsv⟩ := fva_at (HS1.out.next HB.out) hjn
      obtain ⟨f, hf⟩ : ∃ f, fs[j] = f := ⟨_, rfl⟩
      rw [hf] at hc hsv
      have HTK : Hid (fs.take (j + 1) = fs.take j ++ [f]) := by show _ = _; rw [List.take_succ_eq_append_getElem hjn, hf]
      have hfm : f ∈ fs := by rw [← hf]; exact List.getElem_mem _
      have hset : setB f.l = true := by
        have := (of_decide_eq_true HMV.out).1 f hfm
        unfold mayF at this
        simp only [Bool.and_eq_true] at this
        exact this.2
      have hzf := HZ.out f hfm
      obtain ⟨As, cs, rfl, hsl, _⟩ := hsv
      have c0 := hc.1
      have c1 := hc.2.1
      have c2 := hc.2.2.1
      have c3 := hc.2.2.2.1
      have c4 := hc.2.2.2.2.1
      have c5 := hc.2.2.2.2.2
      have hsz := HB.out.size
      obtain ⟨wa, hwa⟩ : ∃ wa, wr.alloc (.cells #[.int .i64 f.e, .int .i64 f.a, .int .i64 f.k, .int .i64 f.m, .string f.s, .slice As f.l.length cs] 51) = wa := ⟨_, rfl⟩
      have hba : Below wr.heap.size wr wa := by rw [← hwa]; exact (Below.refl _ wr).alloc (Nat.le_refl _) _
      have hxa : FcBx wa wr.heap.size f (.slice As f.l.length cs) := by rw [← hwa]; exact fcBx_new wr f _
      have HOA := Lib.hid (ho.next hba)
      have HNE : Hid (∀ g u, (u : Value) = u → g ∈ ([] : List Nat) → False) := fun g u _ h => by cases h
      have hrow : ∀ x6 : Value, OwnF wr w1.heap.size x6 ps → ∀ g, x6.ownBlock = some g → g ≠ wr.heap.size := fun x6 h g e => by have := (World.ownsRow.lt h.1 g e).2; omega
      have HRW := Lib.hid (hrow _ ho)
      have HXA := Lib.hid hxa
      have HBA := Lib.hid (HB.out.trans (hba.mono hsz))
      have HSA := Lib.hid ((hsl.next hba (Nat.le_refl _)).more hba.size)
      have HCL := Lib.hid (fun X (h : SlS X X.heap.size As f.l) => cloneS_any As cs f.l X h hzf.2)
      obtain ⟨is, his⟩ : ∃ v, innB f.l t = v := ⟨_, rfl⟩
      have HHS := Lib.hid (has_is As cs f.l t wa is (by rw [hset, his]; rfl) HSA.out hzf.2)
      have HIS := Lib.hid his
      have x5 := hxa.k5
      clear hc hsl hf hfm hset hba hxa his ho hrow
      go_upto_region 7 with (fail)
      try rw [hwa]
      clear hwa c0 c1 c2 c3 c4 c5
      go_wp2_with fail
      refine HHS.out.mono ?_
      rintro en w2 ⟨rfl, hb2⟩
      have HB2 := Lib.hid (HBA.out.trans (hb2.mono HBA.out.size))
      have HX2 := Lib.hid (HXA.out.next hb2)
      have HO2 := Lib.hid (HOA.out.next hb2)
      have HS2 := Lib.hid ((HSA.out.next hb2 (Nat.le_refl _)).more hb2.size)
      clear hb2 HHS HXA HOA HSA x5
      cases is
      · have HN : Hid (atL t (fs.take (j + 1)) = atL t (fs.take j)) := by
          show _ = _
          unfold atL
          rw [HTK.out, List.filter_append]
          simp [HIS.out]
        go_wp2
        go_roundg g
        case measure => omega
        case rel => exact ⟨j + 1, ps, HO2.out, by go_num, by omega, by rw [HN.out]; exact HP.out, by omega, HB2.out⟩
      · have HN : Hid (atL t (fs.take (j + 1)) = atL t (fs.take j) ++ [f]) := by
          show _ = _
          unfold atL
          rw [HTK.out, List.filter_append]
          simp [HIS.out]
        have x5 := HX2.out.k5
        have HC2 := Lib.hid (HCL.out w2 HS2.out)
        go_wp2_with fail
        refine HC2.out.mono ?_
        rintro en w3 ⟨v3, rfl, ho3, hb3⟩
        have HB3 := Lib.hid (HB2.out.trans (hb3.mono HB2.out.size))
        have hx3 := HX2.out.next hb3
        have hsv3 := ownS_sv ho3
        obtain ⟨A3, c3, rfl, _⟩ := id hsv3
        have hx4 : FcBx (w3.setCell ⟨wr.heap.size, 5, none⟩ (.slice A3 f.l.length c3)) wr.heap.size f (.slice A3 f.l.length c3) := by
          obtain ⟨hlt, hk⟩ := Array.getElem?_eq_some_iff.1 hx3
          show (w3.heap.modify wr.heap.size _)[wr.heap.size]? = _
          rw [Array.getElem?_eq_getElem (by rw [Array.size_modify]; exact hlt), Array.getElem_modify_self, hk]
          rfl
        have HO4 := Lib.hid ((HO2.out.next hb3).boxAt (u := .slice A3 f.l.length c3) hx3 HRW.out)
        have hsv4 : SV (w3.setCell ⟨wr.heap.size, 5, none⟩ (.slice A3 f.l.length c3)) (.slice A3 f.l.length c3) f.l := hsv3.off (row := some wr.heap.size) ⟨rfl, rfl, rfl, by simp, fun k _ h => Below.heap_setCell w3 ⟨wr.heap.size, 5, none⟩ _ k (fun e => h (by rw [e]))⟩ fun r e cs fr hc => by
          cases e
          rw [show w3.heap[wr.heap.size]? = _ from hx3] at hc
          injection hc with hc
          injection hc with _ h2 _
          exact absurd h2 (by decide)
        have HB4 : Hid (Below w1.heap.size w1 (w3.setCell ⟨wr.heap.size, 5, none⟩ (.slice A3 f.l.length c3))) := HB3.out.setCell (p := ⟨wr.heap.size, 5, none⟩) hsz _
        obtain ⟨w4, hw4⟩ : ∃ w4, w3.setCell ⟨wr.heap.size, 5, none⟩ (.slice A3 f.l.length c3) = w4 := ⟨_, rfl⟩
        rw [hw4] at hx4 HO4 hsv4 HB4
        have y5 := hx3.k5
        have yf : w3.frozen? ⟨wr.heap.size, 5, none⟩ = false := by unfold FcBx at hx3; simp [World.frozen?, hx3]
        have HX4 := Lib.hid hx4
        have HV4 := Lib.hid hsv4
        have hs4 := HB4.out.size
        clear hb3 hx3 hsv3 hx4 hsv4 ho3 x5 HC2
        go_upto_region 9 with (fail)
        try rw [hw4]
        clear hw4 y5 yf
        have z0 := HX4.out.k0
        have z1 := HX4.out.k1
        have z2 := HX4.out.k2
        have z3 := HX4.out.k3
        have z4 := HX4.out.k4
        have z5 := HX4.out.k5
        go_wp2_with (at_builtin; go_loud (refine wpList_append_own _ rfl _ _ 26 rfl w1.heap.size 51 i0 (.agg #[.int .i64 0, .int .i64 0, .int .i64 0, .int .i64 0, .string ⟨#[]⟩, .slice none 0 0]) 6 72 Tryz.underlying26 hi hz0 hz1 hz2 rfl (by decide) _ _ _ rfl (World.ownsRow.alloc HO4.out.1 _) ⟨w4.heap.size, 0, none⟩ 1 1 (cellsF (f, .slice A3 f.l.length c3)) rfl rfl (fun j u h => cell_lit w4 #[.int .i64 f.e, .int .i64 f.a, .int .i64 f.k, .int .i64 f.m, .string f.s, .slice A3 f.l.length c3] 51 j u h) (cellsF_one ⟨_, _, _, rfl⟩) (by omega) (by omega) (by simp; omega) ?_); intro v' w5 hown' hgrow _; have HO5 := Lib.hid (HO4.out.push HV4.out hown' hgrow); have HB5 := Lib.hid (HB4.out.trans (((Below.refl w1.heap.size w4).alloc hs4 (.cells #[.int .i64 f.e, .int .i64 f.a, .int .i64 f.k, .int .i64 f.m, .string f.s, .slice A3 f.l.length c3] 51)).grown hgrow (by simp; omega) (fun q hq => (World.ownsRow.lt HO4.out.1 q hq).1))); clear hown' hgrow)
        go_roundg g
        case measure => omega
        case rel => exact ⟨j + 1, ps ++ [(f, .slice A3 f.l.length c3)], HO5.out, by go_num, by omega, by rw [HN.out, List.map_append, HP.out]; rfl, by rw [List.length_append, List.length_singleton]; omega, HB5.out⟩
end Go.Proofs.YthhkabbgghepbaaGreat

/-
  PLAIN FACTS: what stands in a run; at each instant a fact holds just if the last of its datoms that names it is Add.
-/
namespace Go.Proofs.YthhkabbgghepbaaGreat
open VOrd (IsOrd lexO lex_is ordI_is ordT_is ordT)

/-- all of one key stand in one run, where runs rise -/
theorem run_has {α κ : Type} [DecidableEq κ] (key : α → κ) {R : κ → κ → Prop} (irr : ∀ a, ¬ R a a) {l : List α} (hp : (runsL key l).Pairwise fun r r' => ∀ x ∈ r, ∀ y ∈ r', R (key x) (key y)) {r : List α} (hr : r ∈ runsL key l) {x : α} (hx : x ∈ r) {y : α} (hy : y ∈ l) (e : key y = key x) : y ∈ r := by
  rw [← runsL_join key _ l (Nat.le_refl _)] at hy
  obtain ⟨q, hq, hyq⟩ := List.mem_flatten.1 hy
  obtain ⟨i, hi, rfl⟩ := List.mem_iff_getElem.1 hr
  obtain ⟨j, hj, rfl⟩ := List.mem_iff_getElem.1 hq
  rcases Nat.lt_trichotomy i j with h | h | h
  · have := List.pairwise_iff_getElem.1 hp i j hi hj h x hx y hyq
    rw [e] at this
    exact absurd this (irr _)
  · subst h; exact hyq
  · have := List.pairwise_iff_getElem.1 hp j i hj hi h y hyq x hx
    rw [e] at this
    exact absurd this (irr _)
theorem run_all {α κ : Type} [DecidableEq κ] (key : α → κ) {l : List α} {r : List α} (hr : r ∈ runsL key l) {x y : α} (hx : x ∈ r) (hy : y ∈ r) : key x = key y := by
  obtain ⟨z, r', rfl, h⟩ := runsL_each key _ l (Nat.le_refl _) r hr
  rw [h x hx, h y hy]
theorem run_in_mem {α κ : Type} [DecidableEq κ] (key : α → κ) {l r : List α} (h : r ∈ runsL key l) {d : α} (hd : d ∈ r) : d ∈ l := by
  rw [← runsL_join key _ l (Nat.le_refl _)]
  exact List.mem_flatten.2 ⟨r, h, hd⟩
/-- the run of a datom: all of its triple, rising in time -/
theorem run_of {l : List Dat} {d : Dat} (hd : d ∈ l) : ∃ r, r ∈ runsL triD (sortsD 1 l) ∧ (∀ x, x ∈ r ↔ x ∈ l ∧ triD x = triD d) ∧ r.Pairwise (fun x y => x.t = y.t ∨ x.t < y.t) := by
  have hds := ((sorts_ups l).2 d).2 hd
  rw [← runsL_join triD _ (sortsD 1 l) (Nat.le_refl _)] at hds
  obtain ⟨r, hr, hdr⟩ := List.mem_flatten.1 hds
  refine ⟨r, hr, fun x => ⟨fun hx => ⟨((sorts_ups l).2 x).1 (run_in_mem triD hr hx), run_all triD hr hx hdr⟩, fun ⟨h1, h2⟩ => ?_⟩, ?_⟩
  · exact run_has triD (R := fun a b => ordTr a b < 0) tri_irr (runs_rise l) hr hdr (((sorts_ups l).2 x).2 h1) h2
  · have hsub : r.Sublist (sortsD 1 l) := by
      have := List.sublist_flatten_of_mem hr
      rwa [runsL_join triD _ (sortsD 1 l) (Nat.le_refl _)] at this
    have hu := (sorts_ups l).1.sublist hsub
    refine (List.pairwise_iff_getElem.2 fun i j hi hj hij => ?_)
    have h := List.pairwise_iff_getElem.1 hu i j hi hj hij
    have e := run_all triD hr (List.getElem_mem hi) (List.getElem_mem hj)
    rcases ord1_tri h with ⟨_, h⟩ | h
    · have h' : (if ordI r[i].t r[j].t = 0 then _ else ordI r[i].t r[j].t) < 0 := h
      unfold ordI at h'
      by_cases h1 : r[i].t < r[j].t
      · exact .inr h1
      · by_cases h2 : r[j].t < r[i].t
        · rw [if_neg h1, if_pos h2] at h'
          simp at h'
        · exact .inl (by omega)
    · rw [e] at h
      exact absurd h (tri_irr _)
theorem times_rise {r : List Dat} (h : r.Pairwise fun x y => x.t = y.t ∨ x.t < y.t) : (timesL r).Pairwise fun r r' => ∀ x ∈ r, ∀ y ∈ r', x.t < y.t :=
  runsL_rise (fun d : Dat => d.t) (R := fun a b : Int => a < b) (fun _ _ _ h h' => Int.lt_trans h h') _ _ (Nat.le_refl _) h
/-- what holds of a datom's fact, by the datoms that are like it -/
theorem spans_last {l : List Dat} {fs : List FactP} (hg : Goes (sortsD 1 l)) (h : FoldsTo (runsL triD (sortsD 1 l)) fs) (hm : notMay l = false) {d : Dat} (hd : d ∈ l) (t : Int) :
    Inn (spansOf fs (triD d)) t ↔ ∃ x ∈ l, triD x = triD d ∧ x.add = true ∧ Names x t ∧ ∀ y ∈ l, triD y = triD d → Names y t → y.add = false → y.t < x.t := by
  have hrise : RiseF fs := (of_decide_eq_true (foldsTo_may hm h)).2
  obtain ⟨r, hr, hrm, hrt⟩ := run_of hd
  obtain ⟨ls, h1, h2, rfl⟩ := h
  obtain ⟨i, hi, hri⟩ := List.mem_iff_getElem.1 hr
  have hq : (runsL triD (sortsD 1 l))[i]? = some r := by rw [List.getElem?_eq_getElem hi, hri]
  obtain ⟨q, hql⟩ : ∃ q, ls[i]? = some q := ⟨_, List.getElem?_eq_getElem (by omega)⟩
  have hheld := h2 i r q hq hql
  have hrne := run_ne triD hr
  obtain ⟨d0, r0, rfl⟩ : ∃ d0 r0, r = d0 :: r0 := List.exists_cons_of_ne_nil hrne
  have hd0 : triD d0 = triD d := ((hrm d0).1 (by simp)).2
  have hsp : spansOf (factsOf (runsL triD (sortsD 1 l)) ls) (triD d) = q := by
    by_cases hqe : q = []
    · subst hqe
      refine spansOf_none fun f hf e => ?_
      obtain ⟨j, d', r', m, g1, g2, g3, rfl⟩ := mem_factsOf _ _ f hf
      have hmem : d' ∈ d0 :: r0 := run_has triD (R := fun a b => ordTr a b < 0) tri_irr (runs_rise l) hr (x := d0) (by simp) (run_in_mem triD (List.mem_of_getElem? g1) (by simp)) (show triD d' = triD d0 by rw [hd0]; exact e)
      have hj : j < (runsL triD (sortsD 1 l)).length := (List.getElem?_eq_some_iff.1 g1).1
      have hj2 := (List.getElem?_eq_some_iff.1 g1).2
      have hij : i = j := by
        rcases Nat.lt_trichotomy i j with h | h | h
        · have := List.pairwise_iff_getElem.1 (runs_rise l) i j hi hj h d' (by rw [hri]; exact hmem) d' (by rw [hj2]; simp)
          exact absurd this (tri_irr _)
        · exact h
        · have := List.pairwise_iff_getElem.1 (runs_rise l) j i hj hi h d' (by rw [hj2]; simp) d' (by rw [hri]; exact hmem)
          exact absurd this (tri_irr _)
      subst hij
      rw [hql] at g2
      cases g2
      exact g3 rfl
    · have hf := factsOf_mem _ _ i d0 r0 q hq hql hqe
      have := spansOf_mem hrise hf
      rw [show triF (factD d0 q) = triD d from hd0] at this
      exact this
  rw [hsp, hheld.2 t, inT_last (timesL (d0 :: r0)) t (times_rise hrt) (fun o ho => hg _ hr o ho) (fun o ho x hx y hy => run_all (fun d : Dat => d.t) ho hx hy)]
  rw [show (timesL (d0 :: r0)).flatten = d0 :: r0 from runsL_join _ _ _ (Nat.le_refl _)]
  constructor
  · rintro ⟨x, hx, ha, hn, hy⟩
    obtain ⟨g1, g2⟩ := (hrm x).1 hx
    exact ⟨x, g1, g2, ha, hn, fun y hy1 hy2 hy3 hy4 => hy y ((hrm y).2 ⟨hy1, hy2⟩) hy3 hy4⟩
  · rintro ⟨x, g1, g2, ha, hn, hy⟩
    exact ⟨x, (hrm x).2 ⟨g1, g2⟩, ha, hn, fun y hy1 hy3 hy4 => hy y ((hrm y).1 hy1).1 ((hrm y).1 hy1).2 hy3 hy4⟩
/-- of one transaction no datom adds an instant of a triple that another one cuts -/
theorem goes_apart {l : List Dat} (hg : Goes (sortsD 1 l)) {x y : Dat} (hx : x ∈ l) (hy : y ∈ l) (e : triD x = triD y) (et : x.t = y.t) {t : Int} (hnx : Names x t) (hny : Names y t) : x.add = y.add := by
  obtain ⟨r, hr, hrm, hrt⟩ := run_of hx
  have hxr := (hrm x).2 ⟨hx, rfl⟩
  have hyr := (hrm y).2 ⟨hy, e.symm⟩
  have hxf : x ∈ (timesL r).flatten := by rw [show (timesL r).flatten = r from runsL_join _ _ _ (Nat.le_refl _)]; exact hxr
  obtain ⟨o, ho, hxo⟩ := List.mem_flatten.1 hxf
  have hyo : y ∈ o := run_has (fun d : Dat => d.t) (R := fun a b : Int => a < b) (fun a h => Int.lt_irrefl a h) (times_rise hrt) ho hxo hyr et.symm
  have hc := hg r hr o ho
  cases h1 : x.add <;> cases h2 : y.add
  · rfl
  · exact absurd ⟨t, inn_adds.2 ⟨y, hyo, h2, hny⟩, inn_cuts.2 ⟨x, hxo, h1, hnx⟩⟩ hc
  · exact absurd ⟨t, inn_adds.2 ⟨x, hxo, h1, hnx⟩, inn_cuts.2 ⟨y, hyo, h2, hny⟩⟩ hc
  · rfl
/-- what the law's loop knows of some of the datoms: the greatest transaction that names the instant, and what it says -/
def LastIs (p : List Dat) (x : Int × Int × Int × Int × ByteArray) (t : Int) (last : Int) (is : Bool) : Prop :=
  (last = 0 ∧ is = false ∧ ∀ y ∈ p, ¬ (triD y = x ∧ Names y t)) ∨ (∃ y ∈ p, triD y = x ∧ Names y t ∧ last = y.t ∧ is = y.add) ∧ ∀ y ∈ p, triD y = x → Names y t → y.t ≤ last
theorem lastIs_nil (x : Int × Int × Int × Int × ByteArray) (t : Int) : LastIs [] x t 0 false := .inl ⟨rfl, rfl, fun _ h => by cases h⟩
theorem lastIs_yes {p : List Dat} {x : Int × Int × Int × Int × ByteArray} {t last : Int} {is : Bool} (h : LastIs p x t last is) {y : Dat} (hy : triD y = x) (hn : Names y t) (hl : last < y.t) : LastIs (p ++ [y]) x t y.t y.add := by
  refine .inr ⟨⟨y, by simp, hy, hn, rfl, rfl⟩, fun z hz hz1 hz2 => ?_⟩
  rcases List.mem_append.1 hz with hz | hz
  · rcases h with ⟨_, _, h⟩ | ⟨_, h⟩
    · exact absurd ⟨hz1, hz2⟩ (h z hz)
    · have := h z hz hz1 hz2
      omega
  · rw [List.mem_singleton.1 hz]; exact Int.le_refl _
theorem lastIs_no {p : List Dat} {x : Int × Int × Int × Int × ByteArray} {t last : Int} {is : Bool} (h : LastIs p x t last is) {y : Dat} (h1 : 1 ≤ y.t) (hy : ¬ (triD y = x ∧ last < y.t ∧ Names y t)) : LastIs (p ++ [y]) x t last is := by
  rcases h with ⟨rfl, rfl, h⟩ | ⟨⟨z, hz, h2, h3, rfl, rfl⟩, h⟩
  · refine .inl ⟨rfl, rfl, fun z hz hh => ?_⟩
    rcases List.mem_append.1 hz with hz | hz
    · exact h z hz hh
    · rw [List.mem_singleton.1 hz] at hh
      exact hy ⟨hh.1, by omega, hh.2⟩
  · refine .inr ⟨⟨z, by simp [hz], h2, h3, rfl, rfl⟩, fun u hu hu1 hu2 => ?_⟩
    rcases List.mem_append.1 hu with hu | hu
    · exact h u hu hu1 hu2
    · rw [List.mem_singleton.1 hu] at hu1 hu2 ⊢
      by_cases hlt : z.t < y.t
      · exact absurd ⟨hu1, hlt, hu2⟩ hy
      · omega
theorem lastIs_in {l : List Dat} {fs : List FactP} (hg : Goes (sortsD 1 l)) (h : FoldsTo (runsL triD (sortsD 1 l)) fs) (hm : notMay l = false) {d : Dat} (hd : d ∈ l) {t last : Int} {is : Bool} (hl : LastIs l (triD d) t last is) : innB (spansOf fs (triD d)) t = is := by
  have hs := spans_last hg h hm hd t
  rcases hl with ⟨rfl, rfl, hn⟩ | ⟨⟨x, hx, h2, h3, rfl, rfl⟩, hle⟩
  · exact decide_eq_false fun hi => by
      obtain ⟨x, hx, e, _, hnm, _⟩ := hs.1 hi
      exact hn x hx ⟨e, hnm⟩
  · cases ha : x.add with
    | true =>
      refine decide_eq_true (hs.2 ⟨x, hx, h2, ha, h3, fun y hy e hny hya => ?_⟩)
      have h4 := hle y hy e hny
      have h5 : y.t ≠ x.t := fun et => by
        have := goes_apart hg hy hx (e.trans h2.symm) et hny h3
        rw [ha, hya] at this
        cases this
      omega
    | false =>
      refine decide_eq_false fun hi => ?_
      obtain ⟨y, hy, e, hya, hny, hyy⟩ := hs.1 hi
      have h4 := hle y hy e hny
      have h5 := hyy x hx h2 h3 ha
      omega
end Go.Proofs.YthhkabbgghepbaaGreat

/-
  PLAIN FACTS: what two lists of facts tell of each triple; the changes from one to the other.
-/
namespace Go.Proofs.YthhkabbgghepbaaGreat
open VOrd (IsOrd lexO lex_is ordI_is ordT_is ordT)

abbrev Tri := Int × Int × Int × Int × ByteArray
def leastT : List FactP → List FactP → Tri
  | [], [] => (0, 0, 0, 0, ⟨#[]⟩)
  | [], g :: _ => triF g
  | f :: _, [] => triF f
  | f :: _, g :: _ => if ordTr (triF f) (triF g) < 0 then triF f else triF g
def takeS (l : List FactP) (p : Tri) : List Sp := match l with
  | [] => []
  | f :: _ => if triF f = p then f.l else []
def takeR (l : List FactP) (p : Tri) : List FactP := match l with
  | [] => []
  | f :: r => if triF f = p then r else f :: r
/-- each triple of two lists, with its instants in both -/
def togL : Nat → List FactP → List FactP → List (Tri × List Sp × List Sp)
  | 0, _, _ => []
  | n + 1, a, b => if a = [] ∧ b = [] then [] else (leastT a b, takeS a (leastT a b), takeS b (leastT a b)) :: togL n (takeR a (leastT a b)) (takeR b (leastT a b))
theorem takeR_len (l : List FactP) (p : Tri) : (takeR l p).length ≤ l.length := by
  cases l with
  | nil => exact Nat.le_refl _
  | cons f r => unfold takeR; simp only; split <;> simp
theorem tog_less {a b : List FactP} (h : ¬ (a = [] ∧ b = [])) : (takeR a (leastT a b)).length + (takeR b (leastT a b)).length < a.length + b.length := by
  have h1 := takeR_len a (leastT a b)
  have h2 := takeR_len b (leastT a b)
  cases a with
  | nil =>
    cases b with
    | nil => exact absurd ⟨rfl, rfl⟩ h
    | cons g b => simp [leastT, takeR]
  | cons f a =>
    cases b with
    | nil => simp [leastT, takeR]
    | cons g b =>
      by_cases hlt : ordTr (triF f) (triF g) < 0
      · have e : takeR (f :: a) (leastT (f :: a) (g :: b)) = a := by simp [leastT, takeR, hlt]
        rw [e]
        simp only [List.length_cons] at h2 ⊢
        omega
      · have e : takeR (g :: b) (leastT (f :: a) (g :: b)) = b := by simp [leastT, takeR, hlt]
        rw [e]
        simp only [List.length_cons] at h1 ⊢
        omega
theorem togL_nil : ∀ n : Nat, togL n [] [] = []
  | 0 => rfl
  | n + 1 => by unfold togL; simp
/-- with as much fuel as there are facts, more makes no difference -/
theorem togL_fuel : ∀ (n m : Nat) (a b : List FactP), a.length + b.length ≤ n → a.length + b.length ≤ m → togL n a b = togL m a b
  | 0, m, a, b, h, _ => by
    have h1 : a = [] := List.length_eq_zero_iff.1 (by omega)
    have h2 : b = [] := List.length_eq_zero_iff.1 (by omega)
    subst h1 h2
    rw [togL_nil, togL_nil]
  | n + 1, 0, a, b, _, h => by
    have h1 : a = [] := List.length_eq_zero_iff.1 (by omega)
    have h2 : b = [] := List.length_eq_zero_iff.1 (by omega)
    subst h1 h2
    rw [togL_nil, togL_nil]
  | n + 1, m + 1, a, b, h, h' => by
    unfold togL
    by_cases hn : a = [] ∧ b = []
    · rw [if_pos hn, if_pos hn]
    · have := tog_less hn
      rw [if_neg hn, if_neg hn, togL_fuel n m _ _ (by omega) (by omega)]
def togA (a b : List FactP) : List (Tri × List Sp × List Sp) := togL (a.length + b.length) a b
theorem togA_step {a b : List FactP} (h : ¬ (a = [] ∧ b = [])) : togA a b = (leastT a b, takeS a (leastT a b), takeS b (leastT a b)) :: togA (takeR a (leastT a b)) (takeR b (leastT a b)) := by
  have hl := tog_less h
  unfold togA
  obtain ⟨n, hn⟩ : ∃ n, a.length + b.length = n + 1 := ⟨a.length + b.length - 1, by omega⟩
  rw [hn]
  show (if a = [] ∧ b = [] then [] else _) = _
  rw [if_neg h, togL_fuel n _ _ _ (by omega) (Nat.le_refl _)]
theorem togA_nil : togA [] [] = [] := rfl

/-- the instants of one set that another one has not -/
noncomputable def minusL (a b : List Sp) : List Sp := open Classical in if h : ∃ r, SetL r ∧ ∀ t, Inn r t ↔ Inn a t ∧ ¬ Inn b t then h.choose else []
theorem minusL_is {a b r : List Sp} (h : SetL r) (hr : ∀ t, Inn r t ↔ Inn a t ∧ ¬ Inn b t) : minusL a b = r := by
  have hx : ∃ r, SetL r ∧ ∀ t, Inn r t ↔ Inn a t ∧ ¬ Inn b t := ⟨r, h, hr⟩
  unfold minusL
  rw [dif_pos hx]
  exact set_ext hx.choose_spec.1 h fun t => (hx.choose_spec.2 t).trans (hr t).symm
def mkD (x : Tri) (t : Int) (add : Bool) (s : Sp) : Dat := ⟨x.1, x.2.1, x.2.2.1, x.2.2.2.1, x.2.2.2.2, t, add, s.1, s.2⟩
/-- the changes of one triple -/
noncomputable def chgT (t : Int) (q : Tri × List Sp × List Sp) : List Dat := (minusL q.2.2 q.2.1).map (mkD q.1 t true) ++ (minusL q.2.1 q.2.2).map (mkD q.1 t false)
noncomputable def chgL (a b : List FactP) (t : Int) : List Dat := (togA a b).flatMap (chgT t)
theorem chgL_nil (t : Int) : chgL [] [] t = [] := rfl
theorem chgL_step {a b : List FactP} (h : ¬ (a = [] ∧ b = [])) (t : Int) : chgL a b t = chgT t (leastT a b, takeS a (leastT a b), takeS b (leastT a b)) ++ chgL (takeR a (leastT a b)) (takeR b (leastT a b)) t := by
  unfold chgL
  rw [togA_step h, List.flatMap_cons]
theorem minusL_few {a b : List Sp} (hs : SetL (minusL a b)) (hr : ∀ t, Inn (minusL a b) t ↔ Inn a t ∧ ¬ Inn b t) : 2 * (minusL a b).length ≤ 2 * a.length + 2 * b.length := by
  have h1 : TurnsAt (endsP a ++ endsP b) (Inn (minusL a b)) :=
    (((turnsAt_inn a).more (fun x hx => List.mem_append_left _ hx)).and (((turnsAt_inn b).more (fun x hx => List.mem_append_right (endsP a) hx)).not)).iff hr
  have h2 := set_few2 hs h1
  rw [List.length_append, endsP_len, endsP_len] at h2
  exact h2
/-- all spans of facts -/
def sumS (l : List FactP) : Nat := (l.map fun f => f.l.length).sum
theorem sumS_take (l : List FactP) (p : Tri) : (takeS l p).length + sumS (takeR l p) ≤ sumS l := by
  cases l with
  | nil => exact Nat.le_refl _
  | cons f r =>
    unfold takeS takeR sumS
    simp only
    split
    · simp
    · simp
theorem sumS_mem {l : List FactP} {f : FactP} (h : f ∈ l) : f.l.length ≤ sumS l := by
  obtain ⟨a, b, rfl⟩ := List.append_of_mem h
  unfold sumS
  simp
  omega
theorem takeS_cases (l : List FactP) (p : Tri) : takeS l p = [] ∨ ∃ f ∈ l, takeS l p = f.l ∧ triF f = p := by
  cases l with
  | nil => exact .inl rfl
  | cons f r =>
    by_cases h : triF f = p
    · exact .inr ⟨f, by simp, by unfold takeS; simp [h], h⟩
    · exact .inl (by unfold takeS; simp [h])
theorem takeR_sub (l : List FactP) (p : Tri) : (takeR l p).Sublist l := by
  cases l with
  | nil => exact List.Sublist.refl _
  | cons f r =>
    unfold takeR
    simp only
    split
    · exact List.sublist_cons_self _ _
    · exact List.Sublist.refl _
end Go.Proofs.YthhkabbgghepbaaGreat

/-
  CONTRACTS: the closure that says changes, and the one that says both kinds of a triple's.
-/
namespace Go.Proofs.YthhkabbgghepbaaGreat
open Go.RowKit Go.Shelf

/-- blocks of another type than datoms', but one, lie as they lay -/
def KeepT (Bl : Nat) (W W' : World) : Prop := W.heap.size ≤ W'.heap.size ∧ ∀ k cs t fr, k ≠ Bl → W.heap[k]? = some (Obj.cells cs t fr) → t ≠ 46 → W'.heap[k]? = some (Obj.cells cs t fr)
theorem KeepT.refl (Bl : Nat) (W : World) : KeepT Bl W W := ⟨Nat.le_refl _, fun _ _ _ _ _ h _ => h⟩
theorem keepT_below {Bl : Nat} {W W' : World} (h : Below W.heap.size W W') : KeepT Bl W W' := ⟨h.size, fun k _ _ _ _ hc _ => (h.block k (Array.getElem?_eq_some_iff.1 hc).1).trans hc⟩
theorem KeepT.trans {Bl : Nat} {X Y Z : World} (h : KeepT Bl X Y) (k : KeepT Bl Y Z) : KeepT Bl X Z := ⟨Nat.le_trans h.1 k.1, fun i cs t fr h1 h2 h3 => k.2 i cs t fr h1 (h.2 i cs t fr h1 h2 h3) h3⟩
theorem KeepT.boxed {Bl : Nat} {W W' : World} (h : KeepT Bl W W') {b : Nat} {t : TypeId} {v : Value} (hb : Boxed W b t v) (hne : b ≠ Bl) (ht : t ≠ 46) : Boxed W' b t v := h.2 b _ _ _ hne hb ht
theorem KeepT.trAt {Bl : Nat} {W W' : World} (h : KeepT Bl W W') {b : Nat} {e a k m : Int} {s : ByteArray} (hb : TrAt W b e a k m s) (hne : b ≠ Bl) : TrAt W' b e a k m s := h.2 b _ _ _ hne hb (by decide)
theorem KeepT.sv {Bl : Nat} {W W' : World} (h : KeepT Bl W W') {u v : Value} {l : List Sp} (hb : Boxed W Bl 22 u) (hs : SV W v l) : SV W' v l := by
  obtain ⟨A, c, e, h1, h2, h3, h4⟩ := hs
  by_cases hl : l = []
  · exact ⟨A, c, e, fun h => absurd hl h, h2, h3, fun h => absurd hl h⟩
  · obtain ⟨b, o, cs, fr, eb, hc⟩ := h4 hl
    have hne : b ≠ Bl := fun e2 => by
      subst e2
      rw [show W.heap[b]? = _ from hb] at hc
      injection hc with hc
      injection hc with _ h5 _
      exact absurd h5 (by decide)
    have hlt := (Array.getElem?_eq_some_iff.1 hc).1
    have hc' := h.2 b cs _ fr hne hc (by decide)
    have hbk : W'.heap[b]? = W.heap[b]? := hc'.trans hc.symm
    refine ⟨A, c, e, fun _ => ?_, h2, h3, fun _ => ⟨b, o, cs, fr, eb, hc'⟩⟩
    obtain ⟨b', o', e', hlt', hp⟩ := h1 hl
    rw [eb] at e'
    cases e'
    have hcell : ∀ i, W'.cell? ⟨b, i, none⟩ = W.cell? ⟨b, i, none⟩ := fun i => World.cell?_of_block (w := W) (a := ⟨b, i, none⟩) hbk
    exact ⟨b, o, eb, Nat.lt_of_lt_of_le hlt h.1, fun j q hq => ⟨(hcell _).trans (hp j q hq).c0, (hcell _).trans (hp j q hq).c1⟩⟩
theorem dat_step {W w1 : World} {B Bl : Nat} {v v' : Value} {ds : List Dat} {d : Dat} {tmp : Obj} (hv : Boxed W Bl 22 v) (ho : OwnD W B v ds) (hB : B ≤ Bl)
    (hown' : w1.ownsRow B 46 9 v' (ds.length + 1) (ds.flatMap cellsD ++ cellsD d)) (hgrow : (W.alloc tmp).grownBy w1 v.ownBlock) :
    Boxed w1 Bl 22 v ∧ Boxed (w1.setCell ⟨Bl, 0, none⟩ v') Bl 22 v' ∧ OwnD (w1.setCell ⟨Bl, 0, none⟩ v') B v' (ds ++ [d]) ∧ KeepT Bl W (w1.setCell ⟨Bl, 0, none⟩ v') ∧ Below B W (w1.setCell ⟨Bl, 0, none⟩ v') := by
  have hrow : (W.alloc tmp).ownsRow B 46 9 v ds.length (ds.flatMap cellsD) := World.ownsRow.alloc ho _
  have hlt := hv.lt
  have hv1 : Boxed w1 Bl _ v := (hv.alloc tmp).kept hgrow (hv.not_row (by decide) ho)
  have hlo : ∀ j, v.ownBlock = some j → B ≤ j := fun j ej => (World.ownsRow.lt ho j ej).1
  refine ⟨hv1, hv1.set v', ?_, ?_, ?_⟩
  · have h2 : OwnD w1 B v' (ds ++ [d]) := ownD_of (b := [d]) (by simpa using hown')
    exact World.ownsRow.kept h2 (grownBy_setCell' w1 Bl v') (.inr (hv1.not_row (by decide) h2).symm)
  · have hs := hgrow.size
    rw [World.size_alloc] at hs
    refine ⟨by have : (w1.setCell ⟨Bl, 0, none⟩ v').heap.size = w1.heap.size := by simp
               omega, fun k cs t fr hne hc ht => ?_⟩
    have hk := (Array.getElem?_eq_some_iff.1 hc).1
    have h1 : (W.alloc tmp).heap[k]? = some (.cells cs t fr) := (Below.heap_alloc W tmp k hk).trans hc
    have h2 : w1.heap[k]? = (W.alloc tmp).heap[k]? := hgrow.block k (by rw [World.size_alloc]; omega) (fun e => by
      rcases hrow.2 with ⟨rfl, _⟩ | ⟨g, cap, cur, rfl, _, hgb, _⟩
      · cases e
      · have e2 : k = g := by injection e
        subst e2
        rw [h1] at hgb
        injection hgb with hgb
        injection hgb with _ h5 _
        exact ht h5)
    exact (Below.heap_setCell w1 ⟨Bl, 0, none⟩ v' k hne).trans (h2.trans h1)
  · exact (((Below.refl B W).alloc (by omega) tmp).grown hgrow (by simp; omega) fun j ej => by have := hlo j ej; omega).setCell (p := ⟨Bl, 0, none⟩) hB v'
theorem minusA_any (a b : List Sp) (va vb : Value) (w : World) (hva : SVa w va a) (hvb : SVa w vb b) (ha : SetL a) (hb : SetL b) (hka : ∀ s ∈ a, SpOk s) (hkb : ∀ s ∈ b, SpOk s) (hl : 2 * a.length + 2 * b.length ≤ 20000) :
    Calls Tryz.prog 49 #[va, vb] w (PutEnd w (fun t => Inn a t ∧ ¬ Inn b t)) := by
  obtain ⟨A, c, rfl, h1, h2, h3⟩ := hva
  obtain ⟨A', c', rfl, h1', h2', h3'⟩ := hvb
  refine (spanMinus_any A A' c c' a b w h1 h1' h2 h3 h2' h3' hl hka hkb).mono fun e W' h => putEnd_of _ h ha hb hka hkb (fun t => ?_) (fun t ht h => inn_low hka ht h.1)
  unfold wants wantsMinus whoN innB
  by_cases h5 : Inn a t <;> by_cases h6 : Inn b t <;> simp [h5, h6]
/-- What a closure that says changes leaves. -/
def SayEnd (W : World) (B Bl : Nat) (ds : List Dat) (e : Ending) (W' : World) : Prop := e = .returned (.tuple #[]) ∧ (∃ v', Boxed W' Bl 22 v' ∧ OwnD W' B v' ds) ∧ KeepT Bl W W' ∧ Below B W W'
theorem take_snoc_map {l : List Sp} {j : Nat} {x y : Int} (h : l[j]? = some (x, y)) (f : Sp → Dat) : (l.take (j + 1)).map f = (l.take j).map f ++ [f (x, y)] := by
  rw [List.take_add_one, h]
  simp
set_option maxRecDepth 100000 in
set_option maxHeartbeats 4000000 in
theorem say_any (e a k m : Int) (s : ByteArray) (add : Bool) (t : Int) (has lacks : List Sp) (vh vl v : Value) (B Bl Bt : Nat) (ds : List Dat) (W : World) (hB : B ≤ Bl) (hv : Boxed W Bl 22 v) (ho : OwnD W B v ds)
    (ht : Boxed W Bt 2 (.int .i64 t)) (hne : Bt ≠ Bl) (h1 : SVa W vh has) (h2 : SVa W vl lacks) (g1 : SetL has) (g2 : SetL lacks) (k1 : ∀ q ∈ has, SpOk q) (k2 : ∀ q ∈ lacks, SpOk q) (hl : 2 * has.length + 2 * lacks.length ≤ 20000) (hd : ds.length ≤ 100000) :
    Calls Tryz.prog 48 #[.agg #[.int .i64 e, .int .i64 a, .int .i64 k, .int .i64 m, .string s], .bool add, vh, vl, .pointer (some ⟨Bl, 0, none⟩), .pointer (some ⟨Bt, 0, none⟩)] W (SayEnd W B Bl (ds ++ (minusL has lacks).map (mkD (e, a, k, m, s) t add))) := by
  obtain ⟨i0, hi, hz0, hz1, hz2⟩ := info_parts infoD
  have hmx : 2000000000000 ≤ maxLen := by decide
  obtain ⟨w0, hw0⟩ : ∃ w0, W.alloc (.cells #[.int .i64 e, .int .i64 a, .int .i64 k, .int .i64 m, .string s] 71) = w0 := ⟨_, rfl⟩
  have hb0 : Below W.heap.size W w0 := by rw [← hw0]; exact (Below.refl _ W).alloc (Nat.le_refl _) _
  have HT0 : Hid (TrAt w0 W.heap.size e a k m s) := by rw [← hw0]; exact trAt_new W e a k m s
  have HM := Lib.hid (minusA_any has lacks vh vl w0 (h1.next hb0) (h2.next hb0) g1 g2 k1 k2 hl)
  have HLT := Lib.hid hv.lt
  have HNT : Hid (W.heap.size ≠ Bl) := by have := hv.lt; show _ ≠ _; omega
  have HB0 := Lib.hid hb0
  have HS0 := Lib.hid (And.intro hv (And.intro ho ht))
  obtain ⟨A1, c1, rfl, _⟩ := h1
  obtain ⟨A2, c2, rfl, _⟩ := h2
  clear hv ho ht g1 g2 k1 k2 hb0
  go_enter Tryz.func48, Tryz.ntmps48
  go_upto_region 1 with (fail)
  try rw [hw0]
  clear hw0
  go_wp2_with fail
  refine HM.out.mono ?_
  rintro en w2 ⟨⟨l, vr, rfl, hor, hsr, hkr, hir⟩, hb2⟩
  have hlf : 2 * l.length ≤ 20000 := by
    have := minusL_is hsr hir
    have h3 := minusL_few (a := has) (b := lacks) (by rw [this]; exact hsr) (by rw [this]; exact hir)
    rw [this] at h3
    omega
  have HL : Hid (minusL has lacks = l) := minusL_is hsr hir
  have HBX : Hid (Below W.heap.size W w2) := HB0.out.trans (hb2.mono HB0.out.size)
  have HV2 : Hid (Boxed w2 Bl 22 v) := (HBX.out.block Bl HLT.out).trans HS0.out.1
  have HO2 : Hid (OwnD w2 B v ds) := HS0.out.2.1.next HBX.out
  have HT2 : Hid (Boxed w2 Bt 2 (.int .i64 t)) := (HBX.out.block Bt HS0.out.2.2.lt).trans HS0.out.2.2
  have HTR : Hid (TrAt w2 W.heap.size e a k m s) := HT0.out.next hb2
  obtain ⟨Ar, cr, rfl, hsr2⟩ := id (ownS_sv hor)
  have HSV : Hid (SV w2 (.slice Ar l.length cr) l) := ⟨Ar, cr, rfl, hsr2⟩
  clear hor hsr hkr hir hb2 hsr2 HM HT0 HS0
  go_wp2_with fail
  go_loopg [13, 22] l.length (fun g _ y wr => ∃ (j : Nat) (u : Value), y = .int .i64 j ∧ j + g = l.length ∧ Hid (Boxed wr Bl 22 u) ∧ OwnD wr B u (ds ++ (l.take j).map (mkD (e, a, k, m, s) t add)) ∧ Hid (KeepT Bl w2 wr) ∧ Hid (Below B w2 wr))
  case atStart => exact ⟨0, v, rfl, by omega, HV2.out, by rw [List.take_zero, List.map_nil, List.append_nil]; exact HO2.out, KeepT.refl _ _, Below.refl _ _⟩
  case round =>
    obtain ⟨j, u, rfl, hj, HV, ho, HKT, HB⟩ := hrel
    cases gk with
    | zero =>
      have hji : ¬ (j : Int) < (l.length : Int) := by omega
      rw [List.take_of_length_le (by omega)] at ho
      have HO := Lib.hid ho
      have HKK := Lib.hid ((keepT_below HBX.out).trans HKT.out)
      have HBB := Lib.hid ((HBX.out.mono (Nat.le_trans hB (Nat.le_of_lt HLT.out))).trans HB.out)
      clear ho
      go_wp2
      go_end0
      exact ⟨rfl, ⟨u, HV.out, by rw [HL.out]; exact HO.out⟩, HKK.out, HBB.out⟩
    | succ g =>
      have hji : (j : Int) < (l.length : Int) := by omega
      have hjn : j < l.length := by omega
      obtain ⟨A9, c9, e9, hsl9, _⟩ := HKT.out.sv HV2.out HSV.out
      cases e9
      obtain ⟨b, o, rfl, hbl, hp⟩ := hsl9.at_ hjn
      obtain ⟨⟨x, y⟩, hpe⟩ : ∃ p, l[j] = p := ⟨_, rfl⟩
      have HG : Hid (l[j]? = some (x, y)) := by show _ = _; rw [List.getElem?_eq_getElem hjn, hpe]
      rw [hpe] at hp
      have c0 := hp.c0
      have c1 := hp.c1
      obtain ⟨L, hL⟩ : ∃ L, ds ++ (l.take j).map (mkD (e, a, k, m, s) t add) = L := ⟨_, rfl⟩
      have hLl : L.length ≤ 200000 := by rw [← hL, List.length_append, List.length_map, List.length_take]; omega
      have HSN : Hid (ds ++ (l.take (j + 1)).map (mkD (e, a, k, m, s) t add) = L ++ [mkD (e, a, k, m, s) t add (x, y)]) := by show _ = _; rw [take_snoc_map HG.out, ← List.append_assoc, hL]
      rw [hL] at ho
      obtain ⟨wa, hwa⟩ : ∃ wa, wr.alloc (.cells #[.int .i64 x, .int .i64 y] 53) = wa := ⟨_, rfl⟩
      have hba : Below wr.heap.size wr wa := by rw [← hwa]; exact (Below.refl _ wr).alloc (Nat.le_refl _) _
      have hsb : SpAt wa wr.heap.size 0 (x, y) := by
        rw [← hwa]
        exact ⟨by simp only [World.cell?, heap_alloc_new]; rfl, by simp only [World.cell?, heap_alloc_new]; rfl⟩
      have hka : KeepT Bl w2 wa := HKT.out.trans (keepT_below hba)
      have HVA : Hid (Boxed wa Bl 22 u) := (hba.block Bl HV.out.lt).trans HV.out
      have HOA : Hid (OwnD wa B u L) := ho.next hba
      have hta : Boxed wa Bt 2 (.int .i64 t) := hka.boxed HT2.out hne (by decide)
      have htr : TrAt wa W.heap.size e a k m s := hka.trAt HTR.out HNT.out
      have hBw : B ≤ wr.heap.size := Nat.le_trans hB (Nat.le_of_lt HV.out.lt)
      have HBA := Lib.hid (HB.out.trans (hba.mono hBw))
      have HKA := Lib.hid hka
      have d0 := hsb.c0
      have d1 := hsb.c1
      have b0 := HVA.out.cell
      have bf := HVA.out.frozen
      have t0 := hta.cell
      have q0 := htr.k0
      have q1 := htr.k1
      have q2 := htr.k2
      have q3 := htr.k3
      have q4 := htr.k4
      have hBa : B ≤ wa.heap.size := Nat.le_trans hBw hba.size
      clear hsb hka hta htr hp hpe hL ho hsl9 hba
      go_upto_region 5 with (fail)
      try rw [hwa]
      clear hwa c0 c1
      go_wp2_with (at_builtin; go_loud (refine wpList_append_own _ rfl _ _ 22 rfl B 46 i0 (.agg #[.int .i64 0, .int .i64 0, .int .i64 0, .int .i64 0, .string ⟨#[]⟩, .int .i64 0, .bool false, .int .i64 0, .int .i64 0]) 9 80 Tryz.underlying22 hi hz0 hz1 hz2 rfl (by decide) _ _ _ rfl (World.ownsRow.alloc HOA.out _) ⟨wa.heap.size, 0, none⟩ 1 1 (cellsD (mkD (e, a, k, m, s) t add (x, y))) rfl rfl (fun j u h => cell_lit wa #[.int .i64 e, .int .i64 a, .int .i64 k, .int .i64 m, .string s, .int .i64 t, .bool add, .int .i64 x, .int .i64 y] 46 j u h) (cellsD_one (mkD (e, a, k, m, s) t add (x, y))) (by omega) (by omega) (by simp; omega) ?_); intro v' w3 hown' hgrow _; (obtain ⟨g', cap', rfl⟩ := ownsRow_succ hown'); (obtain ⟨hs1, hs2, hs3, hs4, hs5⟩ := dat_step (d := mkD (e, a, k, m, s) t add (x, y)) HVA.out HOA.out hB (by simpa using hown') hgrow); have bx0 := hs1.cell; have bxf := hs1.frozen; have HS2 := Lib.hid hs2; have HS3 := Lib.hid hs3; have HS4 := Lib.hid hs4; have HS5 := Lib.hid hs5; clear hs1 hs2 hs3 hs4 hs5 hown' hgrow)
      go_roundg g
      case measure => omega
      case rel => exact ⟨j + 1, _, by go_num, by omega, HS2.out, by rw [HSN.out]; exact HS3.out, HKA.out.trans HS4.out, HBA.out.trans HS5.out⟩

set_option maxRecDepth 100000 in
set_option maxHeartbeats 4000000 in
theorem sayBoth_any (e a k m : Int) (s : ByteArray) (t : Int) (was is : List Sp) (vw vi v : Value) (B Bl Bt Bs : Nat) (ds : List Dat) (w W : World) (hB : B ≤ Bl) (hBw : B = w.heap.size) (hw : Below B w W) (hv : Boxed W Bl 22 v) (ho : OwnD W B v ds)
    (ht : Boxed W Bt 2 (.int .i64 t)) (hne : Bt ≠ Bl) (hs : Boxed W Bs 96 (.func (.func 48) #[] #[.pointer (some ⟨Bl, 0, none⟩), .pointer (some ⟨Bt, 0, none⟩)])) (hns : Bs ≠ Bl)
    (h1 : SVa w vw was) (h2 : SVa w vi is) (g1 : SetL was) (g2 : SetL is) (k1 : ∀ q ∈ was, SpOk q) (k2 : ∀ q ∈ is, SpOk q) (hl : 2 * was.length + 2 * is.length ≤ 20000) (hd : ds.length ≤ 50000) :
    Calls Tryz.prog 51 #[.agg #[.int .i64 e, .int .i64 a, .int .i64 k, .int .i64 m, .string s], vw, vi, .pointer (some ⟨Bs, 0, none⟩)] W (SayEnd W B Bl (ds ++ chgT t ((e, a, k, m, s), was, is))) := by
  obtain ⟨w0, hw0⟩ : ∃ w0, W.alloc (.cells #[.int .i64 e, .int .i64 a, .int .i64 k, .int .i64 m, .string s] 71) = w0 := ⟨_, rfl⟩
  have hb0 : Below W.heap.size W w0 := by rw [← hw0]; exact (Below.refl _ W).alloc (Nat.le_refl _) _
  have hT0 : TrAt w0 W.heap.size e a k m s := by rw [← hw0]; exact trAt_new W e a k m s
  have hv0 : Boxed w0 Bl 22 v := (hb0.block Bl hv.lt).trans hv
  have ht0 : Boxed w0 Bt 2 (.int .i64 t) := (hb0.block Bt ht.lt).trans ht
  have hs0 := (hb0.block Bs hs.lt).trans hs
  have hs0' : Boxed w0 Bs 96 (.func (.func 48) #[] #[.pointer (some ⟨Bl, 0, none⟩), .pointer (some ⟨Bt, 0, none⟩)]) := hs0
  have hfl : (minusL is was).length ≤ 10000 := by
    by_cases hx : ∃ r, SetL r ∧ ∀ t, Inn r t ↔ Inn is t ∧ ¬ Inn was t
    · obtain ⟨r, r1, r2⟩ := hx
      have e1 := minusL_is r1 r2
      have := minusL_few (a := is) (b := was) (by rw [e1]; exact r1) (by rw [e1]; exact r2)
      omega
    · unfold minusL
      rw [dif_neg hx]
      exact Nat.zero_le _
  have hwz : B ≤ W.heap.size := Nat.le_trans hB (Nat.le_of_lt hv.lt)
  have HSA := Lib.hid (fun (X : World) (h : Below B w0 X) => And.intro (h1.next (hBw ▸ ((hw.trans (hb0.mono hwz)).trans h))) (h2.next (hBw ▸ ((hw.trans (hb0.mono hwz)).trans h))))
  have HC1 := Lib.hid (say_any e a k m s true t is was vi vw v B Bl Bt ds w0 hB hv0 (ho.next hb0) ht0 hne (h2.next (hBw ▸ (hw.trans (hb0.mono hwz)))) (h1.next (hBw ▸ (hw.trans (hb0.mono hwz)))) g2 g1 k2 k1 (by omega) (by omega))
  have HC2 := Lib.hid (fun (X : World) (u : Value) (q1 : Boxed X Bl 22 u) (q2 : OwnD X B u (ds ++ (minusL is was).map (mkD (e, a, k, m, s) t true))) (q3 : Boxed X Bt 2 (.int .i64 t)) (q4 : SVa X vw was) (q5 : SVa X vi is) => say_any e a k m s false t was is vw vi u B Bl Bt (ds ++ (minusL is was).map (mkD (e, a, k, m, s) t true)) X hB q1 q2 q3 hne q4 q5 g1 g2 k1 k2 hl (by rw [List.length_append, List.length_map]; omega))
  have HNT : Hid (W.heap.size ≠ Bl) := by have := hv.lt; show _ ≠ _; omega
  have HBW : Hid (Below B W w0) := hb0.mono (Nat.le_trans hB (Nat.le_of_lt hv.lt))
  have HKW : Hid (KeepT Bl W w0) := keepT_below hb0
  have HS0 := Lib.hid (And.intro hv0 (And.intro ht0 (And.intro hs0' hT0)))
  have z0 := hs0'.cell
  have q0 := hT0.k0
  have q1 := hT0.k1
  have q2 := hT0.k2
  have q3 := hT0.k3
  have q4 := hT0.k4
  clear hv ho ht hs g1 g2 k1 k2 hb0 hwz hw hT0 hv0 ht0 hs0 hs0' h1 h2
  go_enter Tryz.func51, Tryz.ntmps51
  go_upto_region 1 with (fail)
  try rw [hw0]
  clear hw0
  go_wp2_with fail
  refine HC1.out.mono ?_
  rintro en w1 ⟨rfl, ⟨u, hu1, hu2⟩, hk, hb⟩
  have HK1 := Lib.hid hk
  have HB1 := Lib.hid hb
  have ht1 := hk.boxed HS0.out.2.1 hne (by decide)
  have hs1 := hk.boxed HS0.out.2.2.1 hns (by decide)
  have hT1 := hk.trAt HS0.out.2.2.2 HNT.out
  have HC3 := Lib.hid (HC2.out w1 u hu1 hu2 ht1 (HSA.out w1 hb).1 (HSA.out w1 hb).2)
  clear z0 q0 q1 q2 q3 q4 HC1 HC2
  have z0 := hs1.cell
  have q0 := hT1.k0
  have q1 := hT1.k1
  have q2 := hT1.k2
  have q3 := hT1.k3
  have q4 := hT1.k4
  clear hk hb ht1 hs1 hT1 hu1 hu2
  go_wp2_with fail
  refine HC3.out.mono ?_
  rintro en w3 ⟨rfl, ⟨u3, hu1, hu2⟩, hk, hb⟩
  have HE1 := Lib.hid (And.intro hu1 hu2)
  have HK3 := Lib.hid ((HKW.out.trans HK1.out).trans hk)
  have HB3 := Lib.hid ((HBW.out.trans HB1.out).trans hb)
  clear hk hb hu1 hu2
  go_wp2
  go_end0
  exact ⟨rfl, ⟨u3, HE1.out.1, by unfold chgT; rw [← List.append_assoc]; exact HE1.out.2⟩, HK3.out, HB3.out⟩
end Go.Proofs.YthhkabbgghepbaaGreat

/-
  CONTRACTS: take, least and together of Changes.
-/
namespace Go.Proofs.YthhkabbgghepbaaGreat
open Go.RowKit Go.Shelf

/-- all blocks but one lie as they lay -/
def KeepX (Bx : Nat) (W W' : World) : Prop := W.heap.size ≤ W'.heap.size ∧ ∀ k, k < W.heap.size → k ≠ Bx → W'.heap[k]? = W.heap[k]?
theorem keepX_below {Bx : Nat} {W W' : World} (h : Below W.heap.size W W') : KeepX Bx W W' := ⟨h.size, fun k hk _ => h.block k hk⟩
theorem KeepX.trans {Bx : Nat} {X Y Z : World} (h : KeepX Bx X Y) (k : KeepX Bx Y Z) : KeepX Bx X Z := ⟨Nat.le_trans h.1 k.1, fun i h1 h2 => (k.2 i (Nat.lt_of_lt_of_le h1 h.1) h2).trans (h.2 i h1 h2)⟩
theorem KeepX.boxed {Bx : Nat} {W W' : World} (h : KeepX Bx W W') {b : Nat} {t : TypeId} {v : Value} (hb : Boxed W b t v) (hne : b ≠ Bx) : Boxed W' b t v := (h.2 b hb.lt hne).trans hb
theorem KeepX.trAt {Bx : Nat} {W W' : World} (h : KeepX Bx W W') {b : Nat} {e a k m : Int} {s : ByteArray} (hb : TrAt W b e a k m s) (hne : b ≠ Bx) : TrAt W' b e a k m s := (h.2 b hb.lt hne).trans hb
theorem KeepX.ownD {Bx B : Nat} {W W' : World} (h : KeepX Bx W W') {t : TypeId} {u v : Value} {l : List Dat} (ho : OwnD W B v l) (hb : Boxed W Bx t u) (ht : t ≠ 46) (hos : W'.os = W.os) (htp : W'.tape = W.tape) (hop : W'.output = W.output) : OwnD W' B v l := by
  refine World.ownsRow.kept ho (row := some Bx) ⟨hos, htp, hop, h.1, fun k hk hne => h.2 k hk (fun e => hne (by rw [e]))⟩ (.inr ?_)
  exact (hb.not_row ht ho).symm
def cutF (A : Option Addr) (c k : Nat) : Option Addr := if c = k then A else A.map (·.add (k * 6))
theorem sliceF_from (A : Option Addr) (n c k : Nat) (hk : k ≤ n) (w : World) : (Instr.slice 26 (.slice A n c) (some (.int .i64 (k : Int))) none none).run Tryz.prog w = .ok (.slice (cutF A c k) (n - k) (c - k)) w := by
  have hT : Tryz.prog.underlying 26 = some (.slice (Tryz.prog.elem 26)) := by kernel_rfl
  have hS : (Go.sizeOf (Tryz.prog.elem 26)).run Tryz.prog w = .ok 6 w := by kernel_rfl
  rw [run_slice_l (w := w) 26 A n c hT .i64 (k : Int) (by omega) (by omega), hS]
  simp [Result.andThen, sliced, cutF]
theorem FVa.tail {W : World} {A : Option Addr} {c : Nat} {f : FactP} {l : List FactP} (h : FVa W (.slice A (l.length + 1) c) (f :: l)) : FVa W (.slice (cutF A c 1) l.length (c - 1)) l := by
  obtain ⟨A2, c2, e, hs, h2, h3⟩ := h
  injection e with e1 e2 e3
  subst e1 e3
  rw [List.length_cons] at h2
  refine ⟨_, _, rfl, fun hl => ?_, by omega, by omega⟩
  obtain ⟨b, o, rfl, hlt, hc⟩ := hs (by simp)
  have hl0 := List.length_pos_iff.2 hl
  unfold cutF
  rw [if_neg (by omega)]
  refine ⟨b, o + 6, by show some (Addr.add ⟨b, o, none⟩ (1 * 6)) = _; rw [addI], hlt, fun j g hg => ?_⟩
  have := hc (j + 1) g (by simpa using hg)
  rwa [show o + (j + 1) * 6 = o + 6 + j * 6 by omega] at this

theorem neTri (x y : Dat) (w : World) : (binOp .neq 71 (triV x) (triV y)).run Tryz.prog w = .ok (.bool (!decide (triD x = triD y))) w := by
  have h := eqTri x y w
  unfold triV at h ⊢
  rw [run_eql_struct] at h
  rw [run_neq_struct]
  revert h
  generalize (Op.equalIn 10000 71 (.agg #[.int .i64 x.e, .int .i64 x.a, .int .i64 x.k, .int .i64 x.m, .string x.s]) (.agg #[.int .i64 y.e, .int .i64 y.a, .int .i64 y.k, .int .i64 y.m, .string y.s])).run Tryz.prog w = R
  intro h
  cases R <;> simp [Result.andThen] at h ⊢ <;> simp [h]
/-- What take answers. -/
def TakeEnd (w : World) (B Bx : Nat) (l : List FactP) (x : Tri) (W : World) (en : Ending) (W' : World) : Prop :=
  ∃ u A c, en = .returned u ∧ SVa w u (takeS l x) ∧ FVa w (.slice A (takeR l x).length c) (takeR l x) ∧ Boxed W' Bx 26 (.slice A (takeR l x).length c) ∧ KeepX Bx W W' ∧ Below B W W'
theorem nil_sv (w : World) : SVa w (.slice none 0 0) [] := ⟨none, 0, rfl, fun h => absurd rfl h, Nat.le_refl _, Nat.zero_le _⟩
set_option maxRecDepth 100000 in
set_option maxHeartbeats 4000000 in
theorem take_any (e a k m : Int) (s : ByteArray) (A : Option Addr) (c : Nat) (l : List FactP) (w W : World) (Bx : Nat) (hf : FVa w (.slice A l.length c) l) (hw : Below w.heap.size w W) (hB : w.heap.size ≤ Bx) (hbx : Boxed W Bx 26 (.slice A l.length c)) :
    Calls Tryz.prog 77 #[.pointer (some ⟨Bx, 0, none⟩), .agg #[.int .i64 e, .int .i64 a, .int .i64 k, .int .i64 m, .string s]] W (TakeEnd w w.heap.size Bx l (e, a, k, m, s) W) := by
  obtain ⟨W0, hw0⟩ : ∃ W0, W.alloc (.cells #[.int .i64 e, .int .i64 a, .int .i64 k, .int .i64 m, .string s] 71) = W0 := ⟨_, rfl⟩
  have hb0 : Below W.heap.size W W0 := by rw [← hw0]; exact (Below.refl _ W).alloc (Nat.le_refl _) _
  have hT0 : TrAt W0 W.heap.size e a k m s := by rw [← hw0]; exact trAt_new W e a k m s
  have hx0 : Boxed W0 Bx 26 (.slice A l.length c) := (hb0.block Bx hbx.lt).trans hbx
  have HNE : Hid (W.heap.size ≠ Bx) := by have := hbx.lt; show _ ≠ _; omega
  have HB0 := Lib.hid hb0
  have HBW : Hid (Below w.heap.size W W0) := hb0.mono hw.size
  have HW0 : Hid (Below w.heap.size w W0) := hw.trans HBW.out
  have HS0 := Lib.hid (And.intro hx0 hT0)
  have HF := Lib.hid hf
  clear hb0 hw
  cases l with
  | nil =>
    have z0 := hx0.cell
    have hlz : (([] : List FactP).length : Int) = 0 := rfl
    clear hf hbx hx0 hT0
    go_enter Tryz.func77, Tryz.ntmps77
    go_upto_region 1 with (fail)
    try rw [hw0]
    clear hw0
    simp only [List.length_nil] at z0
    refine wp_region_held_drew (S := fun X => Boxed X Bx 26 (.slice A 0 c) ∧ KeepX Bx W X ∧ Below w.heap.size W X) (by kernel_rfl) ⟨HS0.out.1, keepX_below (below_ind HB0.out 1), below_ind HBW.out 1⟩ (fun hHeld => ?_)
    refine takeV 0 (some 6) ((.pointer (some ⟨Bx, 0, none⟩))) rfl rfl (by kernel_rfl) (by kernel_rfl) (by kernel_rfl) (fun _ _ _ h => h) (by rfl) (by (intro _w _hSw; (try dsimp only at _hSw); go_simp)) (by assumption) ?_
    simp only [Act.put, List.setIfInBounds_toArray, List.set_cons_zero, List.set_cons_succ]
    refine takeV 1 (some 7) ((.pointer (some ⟨Bx, 0, none⟩))) rfl rfl (by kernel_rfl) (by kernel_rfl) (by kernel_rfl) (fun _ _ _ h => h) (by rfl) (by (intro _w _hSw; (try dsimp only at _hSw); go_simp)) (by assumption) ?_
    simp only [Act.put, List.setIfInBounds_toArray, List.set_cons_zero, List.set_cons_succ]
    refine takeV 2 (some 8) ((.slice A 0 c)) rfl rfl (by kernel_rfl) (by kernel_rfl) (by kernel_rfl) (fun _ _ _ h => h) (by rfl) (by (intro _w hSw; have q0 := hSw.1.cell; clear hSw; go_simp)) (by assumption) ?_
    simp only [Act.put, List.setIfInBounds_toArray, List.set_cons_zero, List.set_cons_succ]
    refine takeV 3 (some 9) ((.int .i64 0)) rfl rfl (by kernel_rfl) (by kernel_rfl) (by kernel_rfl) (fun _ _ _ h => h) (by rfl) (by (intro _w _hSw; (try dsimp only at _hSw); go_simp)) (by assumption) ?_
    simp only [Act.put, List.setIfInBounds_toArray, List.set_cons_zero, List.set_cons_succ]
    refine takeV 4 (some 10) ((.bool true)) rfl rfl (by kernel_rfl) (by kernel_rfl) (by kernel_rfl) (fun _ _ _ h => h) (by rfl) (by (intro _w _hSw; (try dsimp only at _hSw); go_simp)) (by assumption) ?_
    simp only [Act.put, List.setIfInBounds_toArray, List.set_cons_zero, List.set_cons_succ]
    refine takeV 5 (some 11) ((.bool true)) rfl rfl (by kernel_rfl) (by kernel_rfl) (by kernel_rfl) (fun _ _ _ h => h) (by rfl) (by (intro _w _hSw; (try dsimp only at _hSw); go_simp)) (by assumption) ?_
    simp only [Act.put, List.setIfInBounds_toArray, List.set_cons_zero, List.set_cons_succ]
    refine skipV 6 (some 12) rfl rfl (by kernel_rfl) (by kernel_rfl) (by kernel_rfl) (fun _ _ _ h => h) (by rfl) (by assumption) ?_
    simp only [Act.put, List.setIfInBounds_toArray, List.set_cons_zero, List.set_cons_succ]
    refine skipV 7 (some 13) rfl rfl (by kernel_rfl) (by kernel_rfl) (by kernel_rfl) (fun _ _ _ h => h) (by rfl) (by assumption) ?_
    simp only [Act.put, List.setIfInBounds_toArray, List.set_cons_zero, List.set_cons_succ]
    refine skipV 8 (some 14) rfl rfl (by kernel_rfl) (by kernel_rfl) (by kernel_rfl) (fun _ _ _ h => h) (by rfl) (by assumption) ?_
    simp only [Act.put, List.setIfInBounds_toArray, List.set_cons_zero, List.set_cons_succ]
    refine skipV 9 (some 15) rfl rfl (by kernel_rfl) (by kernel_rfl) (by kernel_rfl) (fun _ _ _ h => h) (by rfl) (by assumption) ?_
    simp only [Act.put, List.setIfInBounds_toArray, List.set_cons_zero, List.set_cons_succ]
    refine skipV 10 (some 16) rfl rfl (by kernel_rfl) (by kernel_rfl) (by kernel_rfl) (fun _ _ _ h => h) (by rfl) (by assumption) ?_
    simp only [Act.put, List.setIfInBounds_toArray, List.set_cons_zero, List.set_cons_succ]
    refine skipV 11 (some 17) rfl rfl (by kernel_rfl) (by kernel_rfl) (by kernel_rfl) (fun _ _ _ h => h) (by rfl) (by assumption) ?_
    simp only [Act.put, List.setIfInBounds_toArray, List.set_cons_zero, List.set_cons_succ]
    refine skipV 12 (some 18) rfl rfl (by kernel_rfl) (by kernel_rfl) (by kernel_rfl) (fun _ _ _ h => h) (by rfl) (by assumption) ?_
    simp only [Act.put, List.setIfInBounds_toArray, List.set_cons_zero, List.set_cons_succ]
    refine skipV 13 (some 19) rfl rfl (by kernel_rfl) (by kernel_rfl) (by kernel_rfl) (fun _ _ _ h => h) (by rfl) (by assumption) ?_
    simp only [Act.put, List.setIfInBounds_toArray, List.set_cons_zero, List.set_cons_succ]
    refine takeV 14 (some 20) ((.bool true)) rfl rfl (by kernel_rfl) (by kernel_rfl) (by kernel_rfl) (fun _ _ _ h => h) (by rfl) (by (intro _w _hSw; (try dsimp only at _hSw); go_simp)) (by assumption) ?_
    simp only [Act.put, List.setIfInBounds_toArray, List.set_cons_zero, List.set_cons_succ]
    refine wpAnyH_done (by kernel_rfl) ?_ _
    have HE := Lib.hid hHeld
    clear hHeld
    go_wp2
    go_ret
    exact ⟨_, A, c, rfl, nil_sv w, HF.out, HE.out.1, HE.out.2.1, HE.out.2.2⟩
  | cons f r =>
    obtain ⟨b, o, sv, rfl, hlt, hc, hsv⟩ := fva_at hf (j := 0) (by simp)
    simp only [Nat.zero_mul, Nat.add_zero, List.getElem_cons_zero] at hc hsv
    have hcW := hc.next HW0.out hlt
    obtain ⟨As, cs, rfl, hsv'⟩ := id hsv
    have HSV : Hid (SVa w (.slice As f.l.length cs) f.l) := ⟨As, cs, rfl, hsv'⟩
    have HOF := Lib.hid (fun X => ofFact_any f (.slice As f.l.length cs) X ⟨_, _, _, rfl⟩)
    have hltW : b < W0.heap.size := Nat.lt_of_lt_of_le hlt HW0.out.size
    have hbB : b < w.heap.size := hlt
    have hne0 : (((r.length + 1 : Nat) : Int) == 0) = false := by rw [beq_eq_false_iff_ne]; omega
    have hne1 : ¬ ((r.length : Int) + 1 = 0) := by omega
    have hq := fun X => neTri (datF f) ⟨e, a, k, m, s, 0, false, 0, 0⟩ X
    unfold triV datF at hq
    simp only at hq
    obtain ⟨tt, htt⟩ : ∃ tt, decide (triD ⟨f.e, f.a, f.k, f.m, f.s, 1, false, 0, 1⟩ = triD ⟨e, a, k, m, s, 0, false, 0, 0⟩) = tt := ⟨_, rfl⟩
    rw [htt] at hq
    have HT : Hid (decide (triF f = (e, a, k, m, s)) = tt) := htt
    have hp0 : (0 : Int) < ((r.length + 1 : Nat) : Int) := by omega
    have HSS : Hid (Boxed W0.drew Bx 26 (.slice (some ⟨b, o, none⟩) (r.length + 1) c) ∧ TrAt W0.drew W.heap.size e a k m s ∧ FcV W0.drew b o f (.slice As f.l.length cs) ∧ b < W0.drew.heap.size ∧ Below W0.heap.size W0 W0.drew) := ⟨HS0.out.1, HS0.out.2, hcW, hltW, below_ind (Below.refl _ _) 1⟩
    clear hf hbx hx0 hT0 hc hsv hsv' hlt hcW htt
    go_enter Tryz.func77, Tryz.ntmps77
    go_upto_region 1 with (fail)
    try rw [hw0]
    clear hw0
    refine wp_region_held_drew (S := fun X => Boxed X Bx 26 (.slice (some ⟨b, o, none⟩) (r.length + 1) c) ∧ TrAt X W.heap.size e a k m s ∧ FcV X b o f (.slice As f.l.length cs) ∧ b < X.heap.size ∧ Below W0.heap.size W0 X) (by kernel_rfl) HSS.out (fun hHeld => ?_)
    refine takeV 0 (some 6) ((.pointer (some ⟨Bx, 0, none⟩))) rfl rfl (by kernel_rfl) (by kernel_rfl) (by kernel_rfl) (fun _ _ _ h => h) (by rfl) (by (intro _w _hSw; (try dsimp only at _hSw); go_simp)) (by assumption) ?_
    simp only [Act.put, List.setIfInBounds_toArray, List.set_cons_zero, List.set_cons_succ]
    refine takeV 1 (some 7) ((.pointer (some ⟨Bx, 0, none⟩))) rfl rfl (by kernel_rfl) (by kernel_rfl) (by kernel_rfl) (fun _ _ _ h => h) (by rfl) (by (intro _w _hSw; (try dsimp only at _hSw); go_simp)) (by assumption) ?_
    simp only [Act.put, List.setIfInBounds_toArray, List.set_cons_zero, List.set_cons_succ]
    refine takeV 2 (some 8) ((.slice (some ⟨b, o, none⟩) (r.length + 1) c)) rfl rfl (by kernel_rfl) (by kernel_rfl) (by kernel_rfl) (fun _ _ _ h => h) (by rfl) (by (intro _w hSw; have q0 := hSw.1.cell; clear hSw; go_simp)) (by assumption) ?_
    simp only [Act.put, List.setIfInBounds_toArray, List.set_cons_zero, List.set_cons_succ]
    refine takeV 3 (some 9) ((.int .i64 ((r.length + 1 : Nat) : Int))) rfl rfl (by kernel_rfl) (by kernel_rfl) (by kernel_rfl) (fun _ _ _ h => h) (by rfl) (by (intro _w _hSw; (try dsimp only at _hSw); go_simp)) (by assumption) ?_
    simp only [Act.put, List.setIfInBounds_toArray, List.set_cons_zero, List.set_cons_succ]
    refine takeV 4 (some 10) ((.bool false)) rfl rfl (by kernel_rfl) (by kernel_rfl) (by kernel_rfl) (fun _ _ _ h => h) (by rfl) (by (intro _w _hSw; (try dsimp only at _hSw); go_simp)) (by assumption) ?_
    simp only [Act.put, List.setIfInBounds_toArray, List.set_cons_zero, List.set_cons_succ]
    refine takeV 5 (some 11) ((.bool false)) rfl rfl (by kernel_rfl) (by kernel_rfl) (by kernel_rfl) (fun _ _ _ h => h) (by rfl) (by (intro _w _hSw; (try dsimp only at _hSw); go_simp)) (by assumption) ?_
    simp only [Act.put, List.setIfInBounds_toArray, List.set_cons_zero, List.set_cons_succ]
    refine takeV 6 (some 12) ((.pointer (some ⟨Bx, 0, none⟩))) rfl rfl (by kernel_rfl) (by kernel_rfl) (by kernel_rfl) (fun _ _ _ h => h) (by rfl) (by (intro _w _hSw; (try dsimp only at _hSw); go_simp)) (by assumption) ?_
    simp only [Act.put, List.setIfInBounds_toArray, List.set_cons_zero, List.set_cons_succ]
    refine takeV 7 (some 13) ((.pointer (some ⟨Bx, 0, none⟩))) rfl rfl (by kernel_rfl) (by kernel_rfl) (by kernel_rfl) (fun _ _ _ h => h) (by rfl) (by (intro _w _hSw; (try dsimp only at _hSw); go_simp)) (by assumption) ?_
    simp only [Act.put, List.setIfInBounds_toArray, List.set_cons_zero, List.set_cons_succ]
    refine takeV 8 (some 14) ((.slice (some ⟨b, o, none⟩) (r.length + 1) c)) rfl rfl (by kernel_rfl) (by kernel_rfl) (by kernel_rfl) (fun _ _ _ h => h) (by rfl) (by (intro _w hSw; have q0 := hSw.1.cell; clear hSw; go_simp)) (by assumption) ?_
    simp only [Act.put, List.setIfInBounds_toArray, List.set_cons_zero, List.set_cons_succ]
    refine takeV 9 (some 15) ((.pointer (some ⟨b, o, none⟩))) rfl rfl (by kernel_rfl) (by kernel_rfl) (by kernel_rfl) (fun _ _ _ h => h) (by rfl) (by (intro _w _hSw; (try dsimp only at _hSw); go_simp)) (by assumption) ?_
    simp only [Act.put, List.setIfInBounds_toArray, List.set_cons_zero, List.set_cons_succ]
    refine takeV 10 (some 16) ((.agg #[.int .i64 f.e, .int .i64 f.a, .int .i64 f.k, .int .i64 f.m, .string f.s, .slice As f.l.length cs])) rfl rfl (by kernel_rfl) (by kernel_rfl) (by kernel_rfl) (fun _ _ _ h => h) (by rfl) (by (intro _w hSw; have q0 := hSw.2.2.1.1; have q1 := hSw.2.2.1.2.1; have q2 := hSw.2.2.1.2.2.1; have q3 := hSw.2.2.1.2.2.2.1; have q4 := hSw.2.2.1.2.2.2.2.1; have q5 := hSw.2.2.1.2.2.2.2.2; clear hSw; go_simp)) (by assumption) ?_
    simp only [Act.put, List.setIfInBounds_toArray, List.set_cons_zero, List.set_cons_succ]
    refine takeV 12 (some 18) ((.agg #[.int .i64 e, .int .i64 a, .int .i64 k, .int .i64 m, .string s])) rfl rfl (by kernel_rfl) (by kernel_rfl) (by kernel_rfl) (fun _ _ _ h => h) (by rfl) (by (intro _w hSw; have q0 := hSw.2.1.k0; have q1 := hSw.2.1.k1; have q2 := hSw.2.1.k2; have q3 := hSw.2.1.k3; have q4 := hSw.2.1.k4; clear hSw; go_simp)) (by assumption) ?_
    simp only [Act.put, List.setIfInBounds_toArray, List.set_cons_zero, List.set_cons_succ]
    refine callV 11 rfl (by kernel_rfl) (by rfl) (fun K hK => ?_)
    go_simp
    go_at_call 54
    refine (HOF.out _).mono ?_
    rintro en w3 ⟨rfl, hb3⟩
    refine hK.out _ _ ⟨(hb3.block Bx hHeld.1.lt).trans hHeld.1, hHeld.2.1.next hb3, hHeld.2.2.1.next hb3 hHeld.2.2.2.1, Nat.lt_of_lt_of_le hHeld.2.2.2.1 hb3.size, hHeld.2.2.2.2.trans (hb3.mono hHeld.2.2.2.2.size)⟩ (fun hHeld => ?_)
    clear hK K hb3
    try simp only [Act.put, List.setIfInBounds_toArray, List.set_cons_zero, List.set_cons_succ]
    refine takeV 13 (some 19) ((.bool (!tt))) rfl rfl (by kernel_rfl) (by kernel_rfl) (by kernel_rfl) (fun _ _ _ h => h) (by rfl) (by (intro _w _hSw; (try dsimp only at _hSw); go_simp)) (by assumption) ?_
    simp only [Act.put, List.setIfInBounds_toArray, List.set_cons_zero, List.set_cons_succ]
    refine takeV 14 (some 20) ((.bool (!tt))) rfl rfl (by kernel_rfl) (by kernel_rfl) (by kernel_rfl) (fun _ _ _ h => h) (by rfl) (by (intro _w _hSw; (try dsimp only at _hSw); go_simp)) (by assumption) ?_
    simp only [Act.put, List.setIfInBounds_toArray, List.set_cons_zero, List.set_cons_succ]
    refine wpAnyH_done (by kernel_rfl) ?_ _
    have HE := Lib.hid hHeld
    clear hHeld
    cases tt
    · have HN : Hid (takeS (f :: r) (e, a, k, m, s) = [] ∧ takeR (f :: r) (e, a, k, m, s) = f :: r) := by
        show _ ∧ _
        have := of_decide_eq_false HT.out
        unfold takeS takeR
        simp [this]
      go_wp2
      go_ret
      have hK := HE.out.2.2.2.2
      refine ⟨_, some ⟨b, o, none⟩, c, rfl, by rw [HN.out.1]; exact nil_sv w, by rw [HN.out.2]; exact HF.out, by rw [HN.out.2]; exact HE.out.1, (keepX_below HB0.out).trans (keepX_below hK), HBW.out.trans (hK.mono HW0.out.size)⟩
    · have HN : Hid (takeS (f :: r) (e, a, k, m, s) = f.l ∧ takeR (f :: r) (e, a, k, m, s) = r) := by
        show _ ∧ _
        have := of_decide_eq_true HT.out
        unfold takeS takeR
        simp [this]
      have z0 := HE.out.1.cell
      have zf := HE.out.1.frozen
      have c5 := HE.out.2.2.1.2.2.2.2.2
      have hsl := fun X => sliceF_from (some ⟨b, o, none⟩) (r.length + 1) c 1 (by omega) X
      simp only [Nat.add_sub_cancel] at hsl
      have hsl' : ∀ X, (Instr.slice 26 (.slice (some ⟨b, o, none⟩) (r.length + 1) c) (some (.int .i64 1)) none none).run Tryz.prog X = .ok (.slice (cutF (some ⟨b, o, none⟩) c 1) r.length (c - 1)) X := hsl
      clear hsl
      go_wp2
      go_ret
      have hK := HE.out.2.2.2.2
      have hb4 := HE.out.1.set (.slice (cutF (some ⟨b, o, none⟩) c 1) r.length (c - 1))
      refine ⟨_, cutF (some ⟨b, o, none⟩) c 1, c - 1, rfl, by rw [HN.out.1]; exact HSV.out, by rw [HN.out.2]; exact HF.out.tail, by rw [HN.out.2]; exact hb4, ((keepX_below HB0.out).trans (keepX_below hK)).trans ⟨by simp, fun q _ hne => Below.heap_setCell _ ⟨Bx, 0, none⟩ _ q hne⟩, (HBW.out.trans (hK.mono HW0.out.size)).setCell (p := ⟨Bx, 0, none⟩) hB _⟩
end Go.Proofs.YthhkabbgghepbaaGreat

/-
  CONTRACT: least of two lists of facts.
-/
namespace Go.Proofs.YthhkabbgghepbaaGreat
open Go.RowKit Go.Shelf

theorem TrAt.fz {W : World} {b : Nat} {e a k m : Int} {s : ByteArray} (h : TrAt W b e a k m s) (j : Nat) : W.frozen? ⟨b, j, none⟩ = false := by unfold TrAt at h; simp [World.frozen?, h]
def LstS (w : World) (bt : Nat) (b o : Nat) (f : FactP) (fv : Value) (b' o' : Nat) (g : FactP) (gv : Value) (W : World) : Prop := (TrAt W bt 0 0 0 0 ⟨#[]⟩ ∧ Below w.heap.size w W) ∧ FcV W b o f fv ∧ b < W.heap.size ∧ FcV W b' o' g gv ∧ b' < W.heap.size
theorem LstS.next {w W W' : World} {bt b o : Nat} {f : FactP} {fv : Value} {b' o' : Nat} {g : FactP} {gv : Value} (h : LstS w bt b o f fv b' o' g gv W) (hb : Below W.heap.size W W') : LstS w bt b o f fv b' o' g gv W' :=
  ⟨⟨h.1.1.next hb, h.1.2.trans (hb.mono h.1.2.size)⟩, h.2.1.next hb h.2.2.1, Nat.lt_of_lt_of_le h.2.2.1 hb.size, h.2.2.2.1.next hb h.2.2.2.2, Nat.lt_of_lt_of_le h.2.2.2.2 hb.size⟩
set_option maxRecDepth 100000 in
set_option maxHeartbeats 4000000 in
theorem least_any (A B : Option Addr) (c d : Nat) (a b : List FactP) (W : World) (ha : FVa W (.slice A a.length c) a) (hb : FVa W (.slice B b.length d) b) (hne : ¬ (a = [] ∧ b = [])) :
    Calls Tryz.prog 78 #[.slice A a.length c, .slice B b.length d] W fun en W' => en = .returned (.agg #[.int .i64 (leastT a b).1, .int .i64 (leastT a b).2.1, .int .i64 (leastT a b).2.2.1, .int .i64 (leastT a b).2.2.2.1, .string (leastT a b).2.2.2.2]) ∧ Below W.heap.size W W' := by
  obtain ⟨w0, hw0⟩ : ∃ w0, W.alloc (.cells #[.int .i64 0, .int .i64 0, .int .i64 0, .int .i64 0, .string ⟨#[]⟩] 71) = w0 := ⟨_, rfl⟩
  have hb0 : Below W.heap.size W w0 := by rw [← hw0]; exact (Below.refl _ W).alloc (Nat.le_refl _) _
  have hT0 : TrAt w0 W.heap.size 0 0 0 0 ⟨#[]⟩ := by rw [← hw0]; exact trAt_new W 0 0 0 0 ⟨#[]⟩
  cases a with
  | nil =>
    cases b with
    | nil => exact absurd ⟨rfl, rfl⟩ hne
    | cons g r =>
      obtain ⟨b', o', gv, rfl, hlt, hc, hgv⟩ := fva_at hb (j := 0) (by simp)
      simp only [Nat.zero_mul, Nat.add_zero, List.getElem_cons_zero] at hc hgv
      have hc0 := hc.next hb0 hlt
      obtain ⟨Bs, ds, rfl, _⟩ := id hgv
      have HOG := Lib.hid (fun X => ofFact_any g (.slice Bs g.l.length ds) X ⟨_, _, _, rfl⟩)
      have HLE : Hid (leastT [] (g :: r) = triF g) := rfl
      have HS := Lib.hid (And.intro hT0 hb0)
      have c0 := hc0.1
      have c1 := hc0.2.1
      have c2 := hc0.2.2.1
      have c3 := hc0.2.2.2.1
      have c4 := hc0.2.2.2.2.1
      have c5 := hc0.2.2.2.2.2
      have hp0 : (0 : Int) < (r.length : Int) + 1 := by omega
      clear ha hb hne hb0 hT0 hlt hc hgv hc0
      go_enter Tryz.func78, Tryz.ntmps78
      go_upto_region 1 with (fail)
      try rw [hw0]
      clear hw0
      go_wp2_with fail
      refine (HOG.out _).mono ?_
      rintro en w9 ⟨rfl, hb9⟩
      have HB9 := Lib.hid (HS.out.2.trans (hb9.mono HS.out.2.size))
      have ht9 := HS.out.1.next hb9
      have r0 := ht9.k0
      have r1 := ht9.k1
      have r2 := ht9.k2
      have r3 := ht9.k3
      have r4 := ht9.k4
      have rf := ht9.fz
      clear ht9 hb9
      go_wp2
      refine bodyPost_ret (v := .agg #[.int .i64 g.e, .int .i64 g.a, .int .i64 g.k, .int .i64 g.m, .string g.s]) ?_ rfl ⟨?_, ?_⟩
      · rw [results_cell_only rfl]; go_simp
      · rw [HLE.out]; rfl
      · exact ((((HB9.out.setCell (p := ⟨W.heap.size, 0, none⟩) (Nat.le_refl _) _).setCell (p := ⟨W.heap.size, 1, none⟩) (Nat.le_refl _) _).setCell (p := ⟨W.heap.size, 2, none⟩) (Nat.le_refl _) _).setCell (p := ⟨W.heap.size, 3, none⟩) (Nat.le_refl _) _).setCell (p := ⟨W.heap.size, 4, none⟩) (Nat.le_refl _) _
  | cons f q =>
    obtain ⟨b1, o1, fv, rfl, hlt, hc, hfv⟩ := fva_at ha (j := 0) (by simp)
    simp only [Nat.zero_mul, Nat.add_zero, List.getElem_cons_zero] at hc hfv
    have hc0 := hc.next hb0 hlt
    have hlt0 := Nat.lt_of_lt_of_le hlt hb0.size
    obtain ⟨As, cs, rfl, _⟩ := id hfv
    have HOF := Lib.hid (fun X => ofFact_any f (.slice As f.l.length cs) X ⟨_, _, _, rfl⟩)
    have hp1 : (0 : Int) < (q.length : Int) + 1 := by omega
    have hn1 : ¬ ((q.length : Int) + 1 = 0) := by omega
    cases b with
    | nil =>
      have HLE : Hid (leastT (f :: q) [] = triF f) := rfl
      have HS : Hid (LstS W W.heap.size b1 o1 f (.slice As f.l.length cs) b1 o1 f (.slice As f.l.length cs) w0.drew) := LstS.next ⟨⟨hT0, hb0⟩, hc0, hlt0, hc0, hlt0⟩ (below_ind (Below.refl _ _) 1)
      clear ha hb hne hb0 hT0 hlt hc hfv hc0 hlt0
      go_enter Tryz.func78, Tryz.ntmps78
      go_upto_region 3 with (fail)
      try rw [hw0]
      clear hw0
      refine wp_region_held_drew (S := LstS W W.heap.size b1 o1 f (.slice As f.l.length cs) b1 o1 f (.slice As f.l.length cs)) (by kernel_rfl) HS.out (fun hHeld => ?_)
      refine takeV 0 (some 12) ((.slice B 0 d)) rfl rfl (by kernel_rfl) (by kernel_rfl) (by kernel_rfl) (fun _ _ _ h => h) (by rfl) (by (intro _w _hSw; (try dsimp only at _hSw); go_simp)) (by assumption) ?_
      simp only [Act.put, List.setIfInBounds_toArray, List.set_cons_zero, List.set_cons_succ]
      refine takeV 1 (some 13) ((.int .i64 0)) rfl rfl (by kernel_rfl) (by kernel_rfl) (by kernel_rfl) (fun _ _ _ h => h) (by rfl) (by (intro _w _hSw; (try dsimp only at _hSw); go_simp)) (by assumption) ?_
      simp only [Act.put, List.setIfInBounds_toArray, List.set_cons_zero, List.set_cons_succ]
      refine takeV 2 (some 14) ((.bool true)) rfl rfl (by kernel_rfl) (by kernel_rfl) (by kernel_rfl) (fun _ _ _ h => h) (by rfl) (by (intro _w _hSw; (try dsimp only at _hSw); go_simp)) (by assumption) ?_
      simp only [Act.put, List.setIfInBounds_toArray, List.set_cons_zero, List.set_cons_succ]
      refine takeV 3 (some 15) ((.bool true)) rfl rfl (by kernel_rfl) (by kernel_rfl) (by kernel_rfl) (fun _ _ _ h => h) (by rfl) (by (intro _w _hSw; (try dsimp only at _hSw); go_simp)) (by assumption) ?_
      simp only [Act.put, List.setIfInBounds_toArray, List.set_cons_zero, List.set_cons_succ]
      refine skipV 4 (some 16) rfl rfl (by kernel_rfl) (by kernel_rfl) (by kernel_rfl) (fun _ _ _ h => h) (by rfl) (by assumption) ?_
      simp only [Act.put, List.setIfInBounds_toArray, List.set_cons_zero, List.set_cons_succ]
      refine skipV 5 (some 17) rfl rfl (by kernel_rfl) (by kernel_rfl) (by kernel_rfl) (fun _ _ _ h => h) (by rfl) (by assumption) ?_
      simp only [Act.put, List.setIfInBounds_toArray, List.set_cons_zero, List.set_cons_succ]
      refine skipV 6 (some 18) rfl rfl (by kernel_rfl) (by kernel_rfl) (by kernel_rfl) (fun _ _ _ h => h) (by rfl) (by assumption) ?_
      simp only [Act.put, List.setIfInBounds_toArray, List.set_cons_zero, List.set_cons_succ]
      refine skipV 7 (some 19) rfl rfl (by kernel_rfl) (by kernel_rfl) (by kernel_rfl) (fun _ _ _ h => h) (by rfl) (by assumption) ?_
      simp only [Act.put, List.setIfInBounds_toArray, List.set_cons_zero, List.set_cons_succ]
      refine skipV 8 (some 20) rfl rfl (by kernel_rfl) (by kernel_rfl) (by kernel_rfl) (fun _ _ _ h => h) (by rfl) (by assumption) ?_
      simp only [Act.put, List.setIfInBounds_toArray, List.set_cons_zero, List.set_cons_succ]
      refine skipV 9 (some 21) rfl rfl (by kernel_rfl) (by kernel_rfl) (by kernel_rfl) (fun _ _ _ h => h) (by rfl) (by assumption) ?_
      simp only [Act.put, List.setIfInBounds_toArray, List.set_cons_zero, List.set_cons_succ]
      refine skipV 10 (some 22) rfl rfl (by kernel_rfl) (by kernel_rfl) (by kernel_rfl) (fun _ _ _ h => h) (by rfl) (by assumption) ?_
      simp only [Act.put, List.setIfInBounds_toArray, List.set_cons_zero, List.set_cons_succ]
      refine skipV 11 (some 23) rfl rfl (by kernel_rfl) (by kernel_rfl) (by kernel_rfl) (fun _ _ _ h => h) (by rfl) (by assumption) ?_
      simp only [Act.put, List.setIfInBounds_toArray, List.set_cons_zero, List.set_cons_succ]
      refine skipV 12 (some 24) rfl rfl (by kernel_rfl) (by kernel_rfl) (by kernel_rfl) (fun _ _ _ h => h) (by rfl) (by assumption) ?_
      simp only [Act.put, List.setIfInBounds_toArray, List.set_cons_zero, List.set_cons_succ]
      refine skipV 13 (some 25) rfl rfl (by kernel_rfl) (by kernel_rfl) (by kernel_rfl) (fun _ _ _ h => h) (by rfl) (by assumption) ?_
      simp only [Act.put, List.setIfInBounds_toArray, List.set_cons_zero, List.set_cons_succ]
      refine takeV 14 (some 26) ((.bool true)) rfl rfl (by kernel_rfl) (by kernel_rfl) (by kernel_rfl) (fun _ _ _ h => h) (by rfl) (by (intro _w _hSw; (try dsimp only at _hSw); go_simp)) (by assumption) ?_
      simp only [Act.put, List.setIfInBounds_toArray, List.set_cons_zero, List.set_cons_succ]
      refine wpAnyH_done (by kernel_rfl) ?_ _
      have HSE := Lib.hid hHeld.1
      have c0 := hHeld.2.1.1
      have c1 := hHeld.2.1.2.1
      have c2 := hHeld.2.1.2.2.1
      have c3 := hHeld.2.1.2.2.2.1
      have c4 := hHeld.2.1.2.2.2.2.1
      have c5 := hHeld.2.1.2.2.2.2.2
      clear hHeld
      go_wp2_with fail
      refine (HOF.out _).mono ?_
      rintro en w9 ⟨rfl, hb9⟩
      have HB9 := Lib.hid (HSE.out.2.trans (hb9.mono HSE.out.2.size))
      have ht9 := HSE.out.1.next hb9
      have r0 := ht9.k0
      have r1 := ht9.k1
      have r2 := ht9.k2
      have r3 := ht9.k3
      have r4 := ht9.k4
      have rf := ht9.fz
      clear ht9 hb9
      go_wp2
      refine bodyPost_ret (v := .agg #[.int .i64 f.e, .int .i64 f.a, .int .i64 f.k, .int .i64 f.m, .string f.s]) ?_ rfl ⟨?_, ?_⟩
      · rw [results_cell_only rfl]; go_simp
      · rw [HLE.out]; rfl
      · exact ((((HB9.out.setCell (p := ⟨W.heap.size, 0, none⟩) (Nat.le_refl _) _).setCell (p := ⟨W.heap.size, 1, none⟩) (Nat.le_refl _) _).setCell (p := ⟨W.heap.size, 2, none⟩) (Nat.le_refl _) _).setCell (p := ⟨W.heap.size, 3, none⟩) (Nat.le_refl _) _).setCell (p := ⟨W.heap.size, 4, none⟩) (Nat.le_refl _) _
    | cons g r =>
      obtain ⟨b2, o2, gv, rfl, hlt2, hc2, hgv⟩ := fva_at hb (j := 0) (by simp)
      simp only [Nat.zero_mul, Nat.add_zero, List.getElem_cons_zero] at hc2 hgv
      have hc20 := hc2.next hb0 hlt2
      have hlt20 := Nat.lt_of_lt_of_le hlt2 hb0.size
      obtain ⟨Bs, ds, rfl, _⟩ := id hgv
      have HOG := Lib.hid (fun X => ofFact_any g (.slice Bs g.l.length ds) X ⟨_, _, _, rfl⟩)
      have hp2 : (0 : Int) < (r.length : Int) + 1 := by omega
      have hn2 : ¬ ((r.length : Int) + 1 = 0) := by omega
      have HS : Hid (LstS W W.heap.size b1 o1 f (.slice As f.l.length cs) b2 o2 g (.slice Bs g.l.length ds) w0.drew) := LstS.next ⟨⟨hT0, hb0⟩, hc0, hlt0, hc20, hlt20⟩ (below_ind (Below.refl _ _) 1)
      obtain ⟨tt, htt⟩ : ∃ tt, decide (ordTr (f.e, f.a, f.k, f.m, f.s) (g.e, g.a, g.k, g.m, g.s) < 0) = tt := ⟨_, rfl⟩
      have HLE : Hid (leastT (f :: q) (g :: r) = if tt = true then triF f else triF g) := by
        show (if ordTr (triF f) (triF g) < 0 then triF f else triF g) = _
        cases tt
        · rw [if_neg (show ¬ ordTr (triF f) (triF g) < 0 from of_decide_eq_false htt)]; rfl
        · rw [if_pos (show ordTr (triF f) (triF g) < 0 from of_decide_eq_true htt)]; rfl
      clear ha hb hne hb0 hT0 hlt hc hfv hc0 hlt0 hlt2 hc2 hgv hc20 hlt20
      go_enter Tryz.func78, Tryz.ntmps78
      go_upto_region 3 with (fail)
      try rw [hw0]
      clear hw0
      refine wp_region_held_drew (S := LstS W W.heap.size b1 o1 f (.slice As f.l.length cs) b2 o2 g (.slice Bs g.l.length ds)) (by kernel_rfl) HS.out (fun hHeld => ?_)
      refine takeV 0 (some 12) ((.slice (some ⟨b2, o2, none⟩) (r.length + 1) d)) rfl rfl (by kernel_rfl) (by kernel_rfl) (by kernel_rfl) (fun _ _ _ h => h) (by rfl) (by (intro _w _hSw; (try dsimp only at _hSw); go_simp)) (by assumption) ?_
      simp only [Act.put, List.setIfInBounds_toArray, List.set_cons_zero, List.set_cons_succ]
      refine takeV 1 (some 13) ((.int .i64 ((r.length + 1 : Nat) : Int))) rfl rfl (by kernel_rfl) (by kernel_rfl) (by kernel_rfl) (fun _ _ _ h => h) (by rfl) (by (intro _w _hSw; (try dsimp only at _hSw); go_simp)) (by assumption) ?_
      simp only [Act.put, List.setIfInBounds_toArray, List.set_cons_zero, List.set_cons_succ]
      refine takeV 2 (some 14) ((.bool false)) rfl rfl (by kernel_rfl) (by kernel_rfl) (by kernel_rfl) (fun _ _ _ h => h) (by rfl) (by (intro _w _hSw; (try dsimp only at _hSw); go_simp)) (by assumption) ?_
      simp only [Act.put, List.setIfInBounds_toArray, List.set_cons_zero, List.set_cons_succ]
      refine takeV 3 (some 15) ((.bool false)) rfl rfl (by kernel_rfl) (by kernel_rfl) (by kernel_rfl) (fun _ _ _ h => h) (by rfl) (by (intro _w _hSw; (try dsimp only at _hSw); go_simp)) (by assumption) ?_
      simp only [Act.put, List.setIfInBounds_toArray, List.set_cons_zero, List.set_cons_succ]
      refine takeV 4 (some 16) ((.slice (some ⟨b1, o1, none⟩) (q.length + 1) c)) rfl rfl (by kernel_rfl) (by kernel_rfl) (by kernel_rfl) (fun _ _ _ h => h) (by rfl) (by (intro _w _hSw; (try dsimp only at _hSw); go_simp)) (by assumption) ?_
      simp only [Act.put, List.setIfInBounds_toArray, List.set_cons_zero, List.set_cons_succ]
      refine takeV 5 (some 17) ((.pointer (some ⟨b1, o1, none⟩))) rfl rfl (by kernel_rfl) (by kernel_rfl) (by kernel_rfl) (fun _ _ _ h => h) (by rfl) (by (intro _w _hSw; (try dsimp only at _hSw); go_simp)) (by assumption) ?_
      simp only [Act.put, List.setIfInBounds_toArray, List.set_cons_zero, List.set_cons_succ]
      refine takeV 6 (some 18) ((.agg #[.int .i64 f.e, .int .i64 f.a, .int .i64 f.k, .int .i64 f.m, .string f.s, .slice As f.l.length cs])) rfl rfl (by kernel_rfl) (by kernel_rfl) (by kernel_rfl) (fun _ _ _ h => h) (by rfl) (by (intro _w hSw; have q0 := hSw.2.1.1; have q1 := hSw.2.1.2.1; have q2 := hSw.2.1.2.2.1; have q3 := hSw.2.1.2.2.2.1; have q4 := hSw.2.1.2.2.2.2.1; have q5 := hSw.2.1.2.2.2.2.2; clear hSw; go_simp)) (by assumption) ?_
      simp only [Act.put, List.setIfInBounds_toArray, List.set_cons_zero, List.set_cons_succ]
      refine takeV 8 (some 20) ((.slice (some ⟨b2, o2, none⟩) (r.length + 1) d)) rfl rfl (by kernel_rfl) (by kernel_rfl) (by kernel_rfl) (fun _ _ _ h => h) (by rfl) (by (intro _w _hSw; (try dsimp only at _hSw); go_simp)) (by assumption) ?_
      simp only [Act.put, List.setIfInBounds_toArray, List.set_cons_zero, List.set_cons_succ]
      refine takeV 9 (some 21) ((.pointer (some ⟨b2, o2, none⟩))) rfl rfl (by kernel_rfl) (by kernel_rfl) (by kernel_rfl) (fun _ _ _ h => h) (by rfl) (by (intro _w _hSw; (try dsimp only at _hSw); go_simp)) (by assumption) ?_
      simp only [Act.put, List.setIfInBounds_toArray, List.set_cons_zero, List.set_cons_succ]
      refine takeV 10 (some 22) ((.agg #[.int .i64 g.e, .int .i64 g.a, .int .i64 g.k, .int .i64 g.m, .string g.s, .slice Bs g.l.length ds])) rfl rfl (by kernel_rfl) (by kernel_rfl) (by kernel_rfl) (fun _ _ _ h => h) (by rfl) (by (intro _w hSw; have q0 := hSw.2.2.2.1.1; have q1 := hSw.2.2.2.1.2.1; have q2 := hSw.2.2.2.1.2.2.1; have q3 := hSw.2.2.2.1.2.2.2.1; have q4 := hSw.2.2.2.1.2.2.2.2.1; have q5 := hSw.2.2.2.1.2.2.2.2.2; clear hSw; go_simp)) (by assumption) ?_
      simp only [Act.put, List.setIfInBounds_toArray, List.set_cons_zero, List.set_cons_succ]
      refine callV 7 rfl (by kernel_rfl) (by rfl) (fun K hK => ?_)
      go_simp
      go_at_call 54
      refine (HOF.out _).mono ?_
      rintro en w4 ⟨rfl, hb4⟩
      have g4 := hHeld.next hb4
      refine hK.out _ _ g4 (fun hHeld => ?_)
      clear hK g4 K hb4
      try simp only [Act.put, List.setIfInBounds_toArray, List.set_cons_zero, List.set_cons_succ]
      refine callV 11 rfl (by kernel_rfl) (by rfl) (fun K hK => ?_)
      go_simp
      go_at_call 54
      refine (HOG.out _).mono ?_
      rintro en w4 ⟨rfl, hb4⟩
      have g4 := hHeld.next hb4
      refine hK.out _ _ g4 (fun hHeld => ?_)
      clear hK g4 K hb4
      try simp only [Act.put, List.setIfInBounds_toArray, List.set_cons_zero, List.set_cons_succ]
      refine callV 12 rfl (by kernel_rfl) (by rfl) (fun K hK => ?_)
      go_simp
      go_at_call 74
      refine (trCmp_any _ _ _ _ _ _ _ _ _ _ _).mono ?_
      rintro en w5 ⟨rfl, hb5⟩
      have g5 := hHeld.next hb5
      refine hK.out _ _ g5 (fun hHeld => ?_)
      clear hK g5 K hb5
      try simp only [Act.put, List.setIfInBounds_toArray, List.set_cons_zero, List.set_cons_succ]
      refine takeV 13 (some 25) ((.bool tt)) rfl rfl (by kernel_rfl) (by kernel_rfl) (by kernel_rfl) (fun _ _ _ h => h) (by rfl) (by (intro _w _hSw; (try dsimp only at _hSw); go_simp)) (by assumption) ?_
      simp only [Act.put, List.setIfInBounds_toArray, List.set_cons_zero, List.set_cons_succ]
      refine takeV 14 (some 26) ((.bool tt)) rfl rfl (by kernel_rfl) (by kernel_rfl) (by kernel_rfl) (fun _ _ _ h => h) (by rfl) (by (intro _w _hSw; (try dsimp only at _hSw); go_simp)) (by assumption) ?_
      simp only [Act.put, List.setIfInBounds_toArray, List.set_cons_zero, List.set_cons_succ]
      refine wpAnyH_done (by kernel_rfl) ?_ _
      have HSE := Lib.hid hHeld.1
      have c0 := hHeld.2.1.1
      have c1 := hHeld.2.1.2.1
      have c2 := hHeld.2.1.2.2.1
      have c3 := hHeld.2.1.2.2.2.1
      have c4 := hHeld.2.1.2.2.2.2.1
      have c5 := hHeld.2.1.2.2.2.2.2
      have d0 := hHeld.2.2.2.1.1
      have d1 := hHeld.2.2.2.1.2.1
      have d2 := hHeld.2.2.2.1.2.2.1
      have d3 := hHeld.2.2.2.1.2.2.2.1
      have d4 := hHeld.2.2.2.1.2.2.2.2.1
      have d5 := hHeld.2.2.2.1.2.2.2.2.2
      clear hHeld htt
      cases tt
      · go_wp2_with fail
        refine (HOG.out _).mono ?_
        rintro en w9 ⟨rfl, hb9⟩
        have HB9 := Lib.hid (HSE.out.2.trans (hb9.mono HSE.out.2.size))
        have ht9 := HSE.out.1.next hb9
        have r0 := ht9.k0
        have r1 := ht9.k1
        have r2 := ht9.k2
        have r3 := ht9.k3
        have r4 := ht9.k4
        have rf := ht9.fz
        clear ht9 hb9
        go_wp2
        refine bodyPost_ret (v := .agg #[.int .i64 g.e, .int .i64 g.a, .int .i64 g.k, .int .i64 g.m, .string g.s]) ?_ rfl ⟨?_, ?_⟩
        · rw [results_cell_only rfl]; go_simp
        · rw [HLE.out]; rfl
        · exact ((((HB9.out.setCell (p := ⟨W.heap.size, 0, none⟩) (Nat.le_refl _) _).setCell (p := ⟨W.heap.size, 1, none⟩) (Nat.le_refl _) _).setCell (p := ⟨W.heap.size, 2, none⟩) (Nat.le_refl _) _).setCell (p := ⟨W.heap.size, 3, none⟩) (Nat.le_refl _) _).setCell (p := ⟨W.heap.size, 4, none⟩) (Nat.le_refl _) _
      · go_wp2_with fail
        refine (HOF.out _).mono ?_
        rintro en w9 ⟨rfl, hb9⟩
        have HB9 := Lib.hid (HSE.out.2.trans (hb9.mono HSE.out.2.size))
        have ht9 := HSE.out.1.next hb9
        have r0 := ht9.k0
        have r1 := ht9.k1
        have r2 := ht9.k2
        have r3 := ht9.k3
        have r4 := ht9.k4
        have rf := ht9.fz
        clear ht9 hb9
        go_wp2
        refine bodyPost_ret (v := .agg #[.int .i64 f.e, .int .i64 f.a, .int .i64 f.k, .int .i64 f.m, .string f.s]) ?_ rfl ⟨?_, ?_⟩
        · rw [results_cell_only rfl]; go_simp
        · rw [HLE.out]; rfl
        · exact ((((HB9.out.setCell (p := ⟨W.heap.size, 0, none⟩) (Nat.le_refl _) _).setCell (p := ⟨W.heap.size, 1, none⟩) (Nat.le_refl _) _).setCell (p := ⟨W.heap.size, 2, none⟩) (Nat.le_refl _) _).setCell (p := ⟨W.heap.size, 3, none⟩) (Nat.le_refl _) _).setCell (p := ⟨W.heap.size, 4, none⟩) (Nat.le_refl _) _
end Go.Proofs.YthhkabbgghepbaaGreat
