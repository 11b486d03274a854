import Derived.Shelf.RegionOpen
import Derived.RangeFuncNested
import Derived.WalkMore
import Derived.BigQuiet
import Derived.Deep.Slices
import Derived.JoinedCond
import Derived.Test.YtbcdkfolmncjlaaJFTgL
import Derived.Test.YtbcdkfolmncjlaaJVSl
import Derived.Test.YtbcdkfolmncjlaaJFSame
import Derived.Test.YtbcdkfolmncjlaaJFLastP
import Derived.Test.YtbcdkfolmncjlaaJDComp
import Derived.Test.YtbcdkfolmncjlaaJOArgs
import Derived.Test.YtbcdkfolmncjlaaJSArgs
import Derived.Test.YtbcdkfolmncjlaaJFMay
import Derived.Test.YtbcdkfolmncjlaaJHLessP
import Derived.Test.YtbcdkfolmncjlaaJHLessR
import Derived.Test.YtbcdkfolmncjlaaJHAlive
import Derived.Test.YtbcdkfolmncjlaaJSLaw
import Derived.Test.YtbcdkfolmncjlaaJAMakesL
import Derived.Test.YtbcdkfolmncjlaaJORdRead
/-
  PLAIN FACTS: datoms, and behind them the changes from their fold to some facts, are folded to these.
-/
namespace Go.Proofs.Ytbcdkfolmncjlaa
open VOrd (IsOrd lexO lex_is ordI_is ordT_is ordT)

/-- the difference of two sets is there -/
theorem minusL_spec (a b : List Sp) : SetL (minusL a b) ∧ ∀ t, Inn (minusL a b) t ↔ Inn a t ∧ ¬ Inn b t := by
  obtain ⟨h1, h2⟩ := of_set (fun x y => x && !y) rfl a b
  have hr : ∀ t, Inn (ofL (fun x y => x && !y) a b [] (endsL (a ++ b))) t ↔ Inn a t ∧ ¬ Inn b t := fun t => by
    have := h2 t
    unfold innB at this
    rw [Bool.eq_iff_iff] at this
    simpa using this
  rw [minusL_is h1 hr]
  exact ⟨h1, hr⟩
theorem rise_cons {f : FactP} {a : List FactP} (h : RiseF (f :: a)) : (∀ g ∈ a, ordTr (triF f) (triF g) < 0) ∧ RiseF a := List.pairwise_cons.1 h
/-- the least triple stands at none's back -/
theorem least_le {a b : List FactP} (ha : RiseF a) (hb : RiseF b) : (∀ g ∈ a, ordTr (leastT a b) (triF g) ≤ 0) ∧ ∀ g ∈ b, ordTr (leastT a b) (triF g) ≤ 0 := by
  have zz : ∀ x, ordTr x x = 0 := fun x => (ordTr_is.zero x x).2 rfl
  have head : ∀ (f : FactP) (r : List FactP), RiseF (f :: r) → ∀ p, ordTr p (triF f) ≤ 0 → ∀ g ∈ f :: r, ordTr p (triF g) ≤ 0 := fun f r h p hp g hg => by
    rcases List.mem_cons.1 hg with rfl | hg
    · exact hp
    · exact ordTr_is.trans _ _ _ hp (Int.le_of_lt ((rise_cons h).1 g hg))
  cases a with
  | nil =>
    cases b with
    | nil => exact ⟨(fun g h => by cases h), (fun g h => by cases h)⟩
    | cons g b => exact ⟨(fun g h => by cases h), head g b hb _ (by show ordTr (triF g) (triF g) ≤ 0; rw [zz]; decide)⟩
  | cons f a =>
    cases b with
    | nil => exact ⟨head f a ha _ (by show ordTr (triF f) (triF f) ≤ 0; rw [zz]; decide), (fun g h => by cases h)⟩
    | cons g b =>
      by_cases h : ordTr (triF f) (triF g) < 0
      · have e : leastT (f :: a) (g :: b) = triF f := by show (if _ then _ else _) = _; rw [if_pos h]
        rw [e]
        exact ⟨head f a ha _ (by rw [zz]; decide), head g b hb _ (Int.le_of_lt h)⟩
      · have e : leastT (f :: a) (g :: b) = triF g := by show (if _ then _ else _) = _; rw [if_neg h]
        rw [e]
        have hs := ordTr_is.swap (triF f) (triF g)
        exact ⟨head f a ha _ (by omega), head g b hb _ (by rw [zz]; decide)⟩
theorem take_spans {a : List FactP} (ha : RiseF a) {p : Tri} (hp : ∀ g ∈ a, ordTr p (triF g) ≤ 0) : takeS a p = spansOf a p ∧ RiseF (takeR a p) ∧ (∀ g ∈ takeR a p, triF g ≠ p) ∧ (∀ x, x ≠ p → spansOf (takeR a p) x = spansOf a x) ∧ ∀ g ∈ a, triF g ≠ p → g ∈ takeR a p := by
  cases a with
  | nil => exact ⟨rfl, ha, (fun g h => by cases h), fun x _ => rfl, (fun g h => by cases h)⟩
  | cons f r =>
    obtain ⟨h1, h2⟩ := rise_cons ha
    by_cases hf : triF f = p
    · have e1 : takeS (f :: r) p = f.l := by unfold takeS; simp [hf]
      have e2 : takeR (f :: r) p = r := by unfold takeR; simp [hf]
      rw [e1, e2]
      refine ⟨by rw [← hf]; exact (spansOf_mem ha (by simp)).symm, h2, fun g hg e => ?_, fun x hx => ?_, fun g hg hne => ?_⟩
      · have := h1 g hg
        rw [hf, e] at this
        exact tri_irr _ this
      · unfold spansOf
        have hd : decide (triF f = x) = false := decide_eq_false (fun h => hx (by rw [← h, hf]))
        rw [List.find?_cons, hd]
      · rcases List.mem_cons.1 hg with rfl | hg
        · exact absurd hf hne
        · exact hg
    · have e1 : takeS (f :: r) p = [] := by unfold takeS; simp [hf]
      have e2 : takeR (f :: r) p = f :: r := by unfold takeR; simp [hf]
      have hlt : ∀ g ∈ f :: r, triF g ≠ p := fun g hg e => by
        rcases List.mem_cons.1 hg with rfl | hg
        · exact hf e
        · have k1 := h1 g hg
          have k2 := hp f (by simp)
          rw [e] at k1
          have k3 := ordTr_is.swap (triF f) p
          omega
      rw [e1, e2]
      exact ⟨(spansOf_none hlt).symm, ha, hlt, fun x _ => rfl, fun g hg _ => hg⟩
theorem tog_is : ∀ (n : Nat) (a b : List FactP), RiseF a → RiseF b → a.length + b.length ≤ n →
    (∀ q ∈ togL n a b, q.2.1 = spansOf a q.1 ∧ q.2.2 = spansOf b q.1 ∧ ((∃ f ∈ a, triF f = q.1) ∨ ∃ f ∈ b, triF f = q.1)) ∧ ∀ x, ((∃ f ∈ a, triF f = x) ∨ ∃ f ∈ b, triF f = x) → ∃ q ∈ togL n a b, q.1 = x
  | 0, a, b, _, _, h => by
    have h1 : a = [] := List.length_eq_zero_iff.1 (by omega)
    have h2 : b = [] := List.length_eq_zero_iff.1 (by omega)
    subst h1 h2
    exact ⟨(fun q hq => by cases hq), fun x hx => by rcases hx with ⟨f, hf, _⟩ | ⟨f, hf, _⟩ <;> cases hf⟩
  | n + 1, a, b, ha, hb, h => by
    by_cases he : a = [] ∧ b = []
    · obtain ⟨rfl, rfl⟩ := he
      rw [togL_nil]
      exact ⟨(fun q hq => by cases hq), fun x hx => by rcases hx with ⟨f, hf, _⟩ | ⟨f, hf, _⟩ <;> cases hf⟩
    · have hl := tog_less he
      obtain ⟨p1, p2⟩ := least_le ha hb
      have hpm : (∃ f ∈ a, triF f = leastT a b) ∨ ∃ f ∈ b, triF f = leastT a b := by
        cases a with
        | nil =>
          cases b with
          | nil => exact absurd ⟨rfl, rfl⟩ he
          | cons g b => exact .inr ⟨g, by simp, rfl⟩
        | cons f a =>
          cases b with
          | nil => exact .inl ⟨f, by simp, rfl⟩
          | cons g b =>
            by_cases h : ordTr (triF f) (triF g) < 0
            · exact .inl ⟨f, by simp, by show _ = (if _ then _ else _); rw [if_pos h]⟩
            · exact .inr ⟨g, by simp, by show _ = (if _ then _ else _); rw [if_neg h]⟩
      obtain ⟨p, hp⟩ : ∃ p, leastT a b = p := ⟨_, rfl⟩
      rw [hp] at hl p1 p2 hpm
      obtain ⟨s1, s2, s3, s4, s5⟩ := take_spans ha p1
      obtain ⟨t1, t2, t3, t4, t5⟩ := take_spans hb p2
      obtain ⟨i1, i2⟩ := tog_is n (takeR a p) (takeR b p) s2 t2 (by omega)
      have e : togL (n + 1) a b = (p, takeS a p, takeS b p) :: togL n (takeR a p) (takeR b p) := by
        show (if a = [] ∧ b = [] then [] else _) = _
        rw [if_neg he, hp]
      rw [e]
      refine ⟨fun q hq => ?_, fun x hx => ?_⟩
      · rcases List.mem_cons.1 hq with rfl | hq
        · exact ⟨s1, t1, hpm⟩
        · obtain ⟨j1, j2, j3⟩ := i1 q hq
          have hne : q.1 ≠ p := by
            rcases j3 with ⟨f, hf, e⟩ | ⟨f, hf, e⟩
            · rw [← e]; exact s3 f hf
            · rw [← e]; exact t3 f hf
          refine ⟨j1.trans (s4 _ hne), j2.trans (t4 _ hne), ?_⟩
          rcases j3 with ⟨f, hf, e⟩ | ⟨f, hf, e⟩
          · exact .inl ⟨f, (takeR_sub _ _).subset hf, e⟩
          · exact .inr ⟨f, (takeR_sub _ _).subset hf, e⟩
      · by_cases hxp : x = p
        · exact ⟨_, List.mem_cons_self, hxp.symm⟩
        · obtain ⟨q, hq, hqe⟩ := i2 x (by
            rcases hx with ⟨f, hf, e⟩ | ⟨f, hf, e⟩
            · exact .inl ⟨f, s5 f hf (by rw [e]; exact hxp), e⟩
            · exact .inr ⟨f, t5 f hf (by rw [e]; exact hxp), e⟩)
          exact ⟨q, List.mem_cons_of_mem _ hq, hqe⟩
/-- what is among the changes -/
theorem chg_mem {a b : List FactP} {t : Int} {d : Dat} (ha : RiseF a) (hb : RiseF b) (h : d ∈ chgL a b t) :
    d.t = t ∧ ((∃ f ∈ a, triF f = triD d) ∨ ∃ f ∈ b, triF f = triD d) ∧ ((d.add = true ∧ spD d ∈ minusL (spansOf b (triD d)) (spansOf a (triD d))) ∨ (d.add = false ∧ spD d ∈ minusL (spansOf a (triD d)) (spansOf b (triD d)))) := by
  obtain ⟨q, hq, hd⟩ := List.mem_flatMap.1 h
  obtain ⟨h1, h2, h3⟩ := (tog_is _ a b ha hb (Nat.le_refl _)).1 q hq
  obtain ⟨x, was, is⟩ := q
  simp only at h1 h2 h3
  subst h1 h2
  unfold chgT at hd
  rcases List.mem_append.1 hd with hd | hd
  · obtain ⟨s, hs, rfl⟩ := List.mem_map.1 hd
    exact ⟨rfl, h3, .inl ⟨rfl, hs⟩⟩
  · obtain ⟨s, hs, rfl⟩ := List.mem_map.1 hd
    exact ⟨rfl, h3, .inr ⟨rfl, hs⟩⟩
theorem mem_chg {a b : List FactP} {t : Int} (ha : RiseF a) (hb : RiseF b) {x : Tri} (hx : (∃ f ∈ a, triF f = x) ∨ ∃ f ∈ b, triF f = x) {s : Sp} :
    (s ∈ minusL (spansOf b x) (spansOf a x) → mkD x t true s ∈ chgL a b t) ∧ (s ∈ minusL (spansOf a x) (spansOf b x) → mkD x t false s ∈ chgL a b t) := by
  obtain ⟨q, hq, rfl⟩ := (tog_is _ a b ha hb (Nat.le_refl _)).2 x hx
  obtain ⟨h1, h2, _⟩ := (tog_is _ a b ha hb (Nat.le_refl _)).1 q hq
  obtain ⟨x, was, is⟩ := q
  simp only at h1 h2
  subst h1 h2
  refine ⟨fun h => List.mem_flatMap.2 ⟨_, hq, ?_⟩, fun h => List.mem_flatMap.2 ⟨_, hq, ?_⟩⟩
  · exact List.mem_append_left _ (List.mem_map.2 ⟨s, h, rfl⟩)
  · exact List.mem_append_right _ (List.mem_map.2 ⟨s, h, rfl⟩)
theorem spans_there {a : List FactP} {x : Tri} {t : Int} (h : Inn (spansOf a x) t) : ∃ f ∈ a, triF f = x := by
  obtain ⟨s, hs, _⟩ := h
  unfold spansOf at hs
  cases hq : a.find? (fun g => decide (triF g = x)) with
  | none => rw [hq] at hs; cases hs
  | some g =>
    have h2 := List.find?_some hq
    exact ⟨g, List.mem_of_find?_eq_some hq, of_decide_eq_true h2⟩
/-- at an instant, what comes and what goes -/
theorem chg_adds {a b : List FactP} {t : Int} (ha : RiseF a) (hb : RiseF b) (x : Tri) (τ : Int) : (∃ d ∈ chgL a b t, triD d = x ∧ d.add = true ∧ Names d τ) ↔ Inn (spansOf b x) τ ∧ ¬ Inn (spansOf a x) τ := by
  rw [← (minusL_spec (spansOf b x) (spansOf a x)).2 τ]
  constructor
  · rintro ⟨d, hd, rfl, had, hn⟩
    obtain ⟨_, _, ⟨_, h⟩ | ⟨h, _⟩⟩ := chg_mem ha hb hd
    · exact ⟨spD d, h, hn⟩
    · rw [had] at h; cases h
  · rintro hi
    have hx := ((minusL_spec (spansOf b x) (spansOf a x)).2 τ).1 hi
    obtain ⟨s, hs, h1, h2⟩ := hi
    exact ⟨mkD x t true s, (mem_chg ha hb (.inr (spans_there hx.1))).1 hs, rfl, rfl, h1, h2⟩
theorem chg_cuts {a b : List FactP} {t : Int} (ha : RiseF a) (hb : RiseF b) (x : Tri) (τ : Int) : (∃ d ∈ chgL a b t, triD d = x ∧ d.add = false ∧ Names d τ) ↔ Inn (spansOf a x) τ ∧ ¬ Inn (spansOf b x) τ := by
  rw [← (minusL_spec (spansOf a x) (spansOf b x)).2 τ]
  constructor
  · rintro ⟨d, hd, rfl, had, hn⟩
    obtain ⟨_, _, ⟨h, _⟩ | ⟨_, h⟩⟩ := chg_mem ha hb hd
    · rw [had] at h; cases h
    · exact ⟨spD d, h, hn⟩
  · rintro hi
    have hx := ((minusL_spec (spansOf a x) (spansOf b x)).2 τ).1 hi
    obtain ⟨s, hs, h1, h2⟩ := hi
    exact ⟨mkD x t false s, (mem_chg ha hb (.inl (spans_there hx.1))).2 hs, rfl, rfl, h1, h2⟩
theorem tri_may {f : FactP} (h : mayF f = true) {d : Dat} (e : triF f = triD d) (h1 : 1 ≤ d.t) (h2 : d.t ≤ 1099511627776) (h3 : d.fr < d.til) : mayD d = true := by
  unfold mayF mayD datF at h
  unfold mayD
  simp only [Bool.and_eq_true] at h ⊢
  unfold triF triD at e
  simp only [Prod.mk.injEq] at e
  obtain ⟨e1, e2, e3, e4, e5⟩ := e
  rw [e1, e2, e3, e4, e5] at h
  exact ⟨⟨h.1.1.1.1, decide_eq_true ⟨h1, h2⟩⟩, decide_eq_true h3⟩
theorem chg_may {a b : List FactP} {t : Int} (ha : mayFs a = true) (hb : mayFs b = true) (h1 : 1 ≤ t) (h2 : t ≤ 1099511627776) {d : Dat} (h : d ∈ chgL a b t) : mayD d = true := by
  obtain ⟨ma, ra⟩ := of_decide_eq_true ha
  obtain ⟨mb, rb⟩ := of_decide_eq_true hb
  obtain ⟨rfl, hf, hs⟩ := chg_mem ra rb h
  have hlt : d.fr < d.til := by
    rcases hs with ⟨_, hs⟩ | ⟨_, hs⟩
    · exact (minusL_spec _ _).1.2 _ hs
    · exact (minusL_spec _ _).1.2 _ hs
  rcases hf with ⟨f, hf, e⟩ | ⟨f, hf, e⟩
  · exact tri_may (ma f hf) e h1 h2 hlt
  · exact tri_may (mb f hf) e h1 h2 hlt
theorem spans_last' {l : List Dat} {fs : List FactP} (hg : Goes (sortsD 1 l)) (h : FoldsTo (runsL triD (sortsD 1 l)) fs) (hm : notMay l = false) (x : Tri) (t : Int) :
    Inn (spansOf fs x) t ↔ ∃ z ∈ l, triD z = x ∧ z.add = true ∧ Names z t ∧ ∀ y ∈ l, triD y = x → Names y t → y.add = false → y.t < z.t := by
  by_cases hx : ∃ d ∈ l, triD d = x
  · obtain ⟨d, hd, rfl⟩ := hx
    exact spans_last hg h hm hd t
  · constructor
    · intro hi
      obtain ⟨f, hf, e⟩ := spans_there hi
      obtain ⟨ls, h1, h2, rfl⟩ := h
      obtain ⟨i, d, r, q, g1, _, _, rfl⟩ := mem_factsOf _ _ f hf
      exact absurd ⟨d, ((sorts_ups l).2 d).1 (run_in_mem triD (List.mem_of_getElem? g1) (by simp)), e⟩ hx
    · rintro ⟨z, hz, e, _⟩
      exact absurd ⟨z, hz, e⟩ hx
theorem facts_ext {a b : List FactP} (ha : mayFs a = true) (hb : mayFs b = true) (h : ∀ x t, Inn (spansOf a x) t ↔ Inn (spansOf b x) t) : a = b := by
  obtain ⟨ma, ra⟩ := of_decide_eq_true ha
  obtain ⟨mb, rb⟩ := of_decide_eq_true hb
  have good : ∀ f : FactP, mayF f = true → SetL f.l ∧ f.l ≠ [] := fun f hf => by
    unfold mayF at hf
    simp only [Bool.and_eq_true] at hf
    exact ⟨of_decide_eq_true hf.2, List.length_pos_iff.1 (of_decide_eq_true hf.1.2)⟩
  have has : ∀ (l : List FactP), (∀ f ∈ l, mayF f = true) → RiseF l → ∀ x, x ∈ l.map triF ↔ ∃ t, Inn (spansOf l x) t := fun l hl hr x => by
    constructor
    · intro hx
      obtain ⟨f, hf, rfl⟩ := List.mem_map.1 hx
      obtain ⟨g1, g2⟩ := good f (hl f hf)
      rw [spansOf_mem hr hf]
      cases hfl : f.l with
      | nil => exact absurd hfl g2
      | cons s r => exact ⟨s.1, (set_start (s := s) (by rw [← hfl]; exact g1) (by simp)).1⟩
    · rintro ⟨t, hi⟩
      obtain ⟨f, hf, e⟩ := spans_there hi
      exact List.mem_map.2 ⟨f, hf, e⟩
  have hmap : a.map triF = b.map triF := by
    refine ups_uniq ordTr_is _ _ ?_ ?_ fun x => ?_
    · unfold Ups; exact List.pairwise_map.2 ra
    · unfold Ups; exact List.pairwise_map.2 rb
    · rw [has a ma ra, has b mb rb]
      exact exists_congr fun t => h x t
  have hlen : a.length = b.length := by have := congrArg List.length hmap; simpa using this
  refine List.ext_getElem hlen fun i h1 h2 => ?_
  have e : triF a[i] = triF b[i] := by
    have := List.getElem_of_eq hmap (i := i) (by simpa using h1)
    simpa using this
  have k1 := spansOf_mem ra (List.getElem_mem h1)
  have k2 := spansOf_mem rb (List.getElem_mem h2)
  have el : a[i].l = b[i].l := by
    refine set_ext (good _ (ma _ (List.getElem_mem h1))).1 (good _ (mb _ (List.getElem_mem h2))).1 fun t => ?_
    rw [← k1, ← k2, e]
    exact h _ t
  unfold triF at e
  simp only [Prod.mk.injEq] at e
  generalize a[i] = f at e el
  generalize b[i] = g at e el
  obtain ⟨f1, f2, f3, f4, f5, f6⟩ := f
  obtain ⟨g1, g2, g3, g4, g5, g6⟩ := g
  simp only at e el
  obtain ⟨rfl, rfl, rfl, rfl, rfl⟩ := e
  subst el
  rfl
/-- THE STAGE'S THEOREM, in plain words -/
theorem change_folds {l : List Dat} {old now : List FactP} {t : Int} (hm : notMay l = false) (hg : Goes (sortsD 1 l)) (hf : FoldsTo (runsL triD (sortsD 1 l)) old) (hn : mayFs now = true) (h1 : 1 ≤ t) (h2 : t ≤ 1099511627776) (ht : ∀ d ∈ l, d.t < t) :
    notMay (l ++ chgL old now t) = false ∧ Goes (sortsD 1 (l ++ chgL old now t)) ∧ ∀ fs, FoldsTo (runsL triD (sortsD 1 (l ++ chgL old now t))) fs → fs = now := by
  have ho := foldsTo_may hm hf
  have ra := (of_decide_eq_true ho).2
  have rb := (of_decide_eq_true hn).2
  have m1 : notMay (l ++ chgL old now t) = false := by
    unfold notMay at hm ⊢
    rw [List.any_append, hm, Bool.false_or, List.any_eq_false]
    exact fun d hd => by simp [chg_may ho hn h1 h2 hd]
  have both : ∀ z, z ∈ l ++ chgL old now t → z.t ≤ t ∧ (z.t = t → z ∈ chgL old now t) ∧ (z.t ≠ t → z ∈ l) := fun z hz => by
    rcases List.mem_append.1 hz with hz | hz
    · have := ht z hz
      exact ⟨by omega, fun e => by omega, fun _ => hz⟩
    · have := (chg_mem ra rb hz).1
      exact ⟨by omega, fun _ => hz, fun e => absurd this e⟩
  have m2 : Goes (sortsD 1 (l ++ chgL old now t)) := fun run hr once hoo => by
    rintro ⟨τ, hi1, hi2⟩
    obtain ⟨x, hx, hxa, hxn⟩ := inn_adds.1 hi1
    obtain ⟨y, hy, hya, hyn⟩ := inn_cuts.1 hi2
    have hxr := run_in_mem (fun d : Dat => d.t) hoo hx
    have hyr := run_in_mem (fun d : Dat => d.t) hoo hy
    have et : x.t = y.t := run_all (fun d : Dat => d.t) hoo hx hy
    have e : triD x = triD y := run_all triD hr hxr hyr
    have hxb := both x (((sorts_ups _).2 x).1 (run_in_mem triD hr hxr))
    have hyb := both y (((sorts_ups _).2 y).1 (run_in_mem triD hr hyr))
    by_cases he : x.t = t
    · have k1 := (chg_adds ra rb (triD x) τ).1 ⟨x, hxb.2.1 he, rfl, hxa, hxn⟩
      have k2 := (chg_cuts ra rb (triD x) τ).1 ⟨y, hyb.2.1 (by omega), e.symm, hya, hyn⟩
      exact k1.2 k2.1
    · have := goes_apart hg (hxb.2.2 he) (hyb.2.2 (by omega)) e et hxn hyn
      rw [hxa, hya] at this
      cases this
  refine ⟨m1, m2, fun fs hfs => facts_ext (foldsTo_may m1 hfs) hn fun x τ => ?_⟩
  rw [spans_last' m2 hfs m1 x τ]
  have hO := spans_last' hg hf hm x τ
  have hA := chg_adds (t := t) ra rb x τ
  have hC := chg_cuts (t := t) ra rb x τ
  constructor
  · rintro ⟨z, hz, e, hza, hzn, hzy⟩
    rcases List.mem_append.1 hz with hzl | hzc
    · have hold : Inn (spansOf old x) τ := hO.2 ⟨z, hzl, e, hza, hzn, fun y hy => hzy y (List.mem_append_left _ hy)⟩
      refine Classical.byContradiction fun hnn => ?_
      obtain ⟨y, hy, ye, ya, yn⟩ := hC.2 ⟨hold, hnn⟩
      have k1 := hzy y (List.mem_append_right _ hy) ye yn ya
      have k2 := (chg_mem ra rb hy).1
      have k3 := ht z hzl
      omega
    · exact (hA.1 ⟨z, hzc, e, hza, hzn⟩).1
  · intro hN
    by_cases hold : Inn (spansOf old x) τ
    · obtain ⟨z, hzl, e, hza, hzn, hzy⟩ := hO.1 hold
      refine ⟨z, List.mem_append_left _ hzl, e, hza, hzn, fun y hy ye yn ya => ?_⟩
      rcases List.mem_append.1 hy with hy | hy
      · exact hzy y hy ye yn ya
      · exact absurd hN (hC.1 ⟨y, hy, ye, ya, yn⟩).2
    · obtain ⟨z, hzc, e, hza, hzn⟩ := hA.2 ⟨hN, hold⟩
      refine ⟨z, List.mem_append_right _ hzc, e, hza, hzn, fun y hy ye yn ya => ?_⟩
      rcases List.mem_append.1 hy with hy | hy
      · have := ht y hy
        have := (chg_mem ra rb hzc).1
        omega
      · exact absurd (hC.1 ⟨y, hy, ye, ya, yn⟩).1 hold
/-- from facts to themselves there are no changes -/
theorem chg_same {a : List FactP} (ha : RiseF a) (t : Int) : chgL a a t = [] := by
  refine List.eq_nil_iff_forall_not_mem.2 fun d hd => ?_
  obtain ⟨_, _, h⟩ := chg_mem ha ha hd
  rcases h with ⟨_, h⟩ | ⟨_, h⟩
  · have := ((minusL_spec (spansOf a (triD d)) (spansOf a (triD d))).2 _).1 (set_start (minusL_spec _ _).1 h).1
    exact this.2 this.1
  · have := ((minusL_spec (spansOf a (triD d)) (spansOf a (triD d))).2 _).1 (set_start (minusL_spec _ _).1 h).1
    exact this.2 this.1
end Go.Proofs.Ytbcdkfolmncjlaa

/-
  CONTRACT: the document's Great of facts; how many spans a fold has, and how many changes there are.
-/
namespace Go.Proofs.Ytbcdkfolmncjlaa
open Go.RowKit Go.Shelf

def costF (l : List FactP) : Int := (l.map fun f => (20 + (f.s.size : Int) + 4 * (f.l.length : Int))).sum
theorem costF_take {l : List FactP} {j : Nat} (h : j < l.length) : costF (l.take (j + 1)) = costF (l.take j) + 20 + (l[j].s.size : Int) + 4 * (l[j].l.length : Int) := by
  have ht : l.take (j + 1) = l.take j ++ [l[j]] := by rw [List.take_add_one, List.getElem?_eq_getElem h]; rfl
  unfold costF
  rw [ht, List.map_append, List.sum_append]
  simp
  omega
theorem costF_le (l : List FactP) (hs : ∀ p ∈ l, p.s.size + p.l.length ≤ 1048576) : costF l ≤ l.length * 4194324 ∧ (l.length : Int) * 20 + 4 * (sumS l : Int) ≤ costF l := by
  induction l with
  | nil => simp [costF, sumS]
  | cons p r ih =>
    have h1 := ih (fun q hq => hs q (by simp [hq]))
    have h2 := hs p (by simp)
    unfold costF sumS at h1 ⊢
    simp only [List.map_cons, List.sum_cons, List.length_cons]
    omega
set_option maxRecDepth 100000 in
set_option maxHeartbeats 2000000 in
theorem greatF_upto (A : Option Addr) (c : Nat) (l : List FactP) (w : World) (hs : FVa w (.slice A l.length c) l) (hl : l.length ≤ 1048576) (hz : ∀ f ∈ l, f.s.size + f.l.length ≤ 1048576) :
    Calls Try.prog 14 #[.slice A l.length c] w fun e w' => ((e = .returned (.int .i64 0) ∧ l.length ≤ 150 ∧ sumS l ≤ 750) ∨ e = .returned (.int .i64 1)) ∧ Below w.heap.size w w' := by
  have HS := Lib.hid hs
  have HZ := Lib.hid hz
  clear hs hz
  go_enter Try.func14, Try.ntmps14
  go_wp2
  go_loopg [3, 4] l.length (fun g x y wr => ∃ j q : Nat, x = .int .i64 (costF (l.take j)) ∧ y = .int .i64 j ∧ j + g = l.length ∧ wr = w.drewN q)
  case atStart => exact ⟨0, 0, rfl, rfl, by omega, rfl⟩
  case round =>
    obtain ⟨j, q, rfl, rfl, hj, rfl⟩ := hrel
    cases gk with
    | succ g =>
      have hji : (j : Int) < (l.length : Int) := by omega
      have hjn : j < l.length := by omega
      obtain ⟨b, o, sv, rfl, _, hc, hsv⟩ := fva_at HS.out hjn
      obtain ⟨As, cs, rfl, _⟩ := hsv
      have hcs := Lib.hid (costF_take hjn)
      have hcl := costF_le (l.take j) (fun p hp => HZ.out p (List.mem_of_mem_take hp))
      have htl : (l.take j).length ≤ 1048576 := by rw [List.length_take]; omega
      obtain ⟨T, hT⟩ : ∃ T, costF (l.take j) = T := ⟨_, rfl⟩
      rw [hT] at hcl
      rw [hT]
      have hsz := HZ.out _ (List.getElem_mem hjn)
      obtain ⟨f, hf⟩ : ∃ f, l[j] = f := ⟨_, rfl⟩
      rw [hf] at hc hcs hsz
      have hTT : T ≤ 5000000000000 := by omega
      have hT0 : 0 ≤ T := by omega
      have hs1 : f.s.size ≤ 1048576 := by omega
      have hs2 : f.l.length ≤ 1048576 := by omega
      have HT := Lib.hid hT
      have c4 := hc.2.2.2.2.1
      have c5 := hc.2.2.2.2.2
      clear hc hT hcl htl hf hsz
      go_wp2
      go_big_quiet (fail)
      go_wp2
      go_roundg g
      case measure => omega
      case rel => exact ⟨j + 1, _, by rw [hcs.out, HT.out], by go_num, by omega, rfl⟩
    | zero =>
      have hji : ¬ (j : Int) < (l.length : Int) := by omega
      have ht : l.take j = l := List.take_of_length_le (by omega)
      have hcl := costF_le l HZ.out
      rw [ht]
      obtain ⟨T, hT⟩ : ∃ T, costF l = T := ⟨_, rfl⟩
      rw [hT] at hcl ⊢
      have HB : Hid (Below w.heap.size w (w.drewN q)) := below_ind (Below.refl _ w) q
      clear ht hT
      by_cases hn : 3000 < T
      · go_wp2
        go_ret
        exact ⟨.inr rfl, HB.out⟩
      · have hl2 : l.length ≤ 150 := by omega
        have hl3 : sumS l ≤ 750 := by omega
        clear hcl
        go_wp2
        go_ret
        first | exact ⟨.inl ⟨rfl, hl2, hl3⟩, HB.out⟩ | exact ⟨.inl rfl, HB.out⟩

theorem turnsAt_inT {E : List Int} : ∀ (rs : List (List Dat)), (∀ r ∈ rs, TurnsAt E (Inn (addsL r)) ∧ TurnsAt E (Inn (cutsL r))) → TurnsAt E (inT (rs.map turnR))
  | [], _ => turnsAt_no E
  | r :: rs, h => by
    have ih := turnsAt_inT rs (fun q hq => h q (List.mem_cons_of_mem _ hq))
    have hn : TurnsAt E (fun t => ∀ y ∈ rs.map turnR, ¬ Inn y.o t) := fun t ht => by
      refine forall_congr' fun y => forall_congr' fun hy => ?_
      obtain ⟨q, hq, rfl⟩ := List.mem_map.1 hy
      exact not_congr ((h q (List.mem_cons_of_mem _ hq)).2 t ht)
    exact (((h r List.mem_cons_self).1.and hn).or ih).iff fun t => Iff.rfl
theorem held_few {run : List Dat} {l : List Sp} (h : HeldL run l) : l.length ≤ run.length := by
  have hsub : ∀ r ∈ timesL run, ∀ d ∈ r, d ∈ run := fun r hr d hd => run_in_mem (fun d : Dat => d.t) hr hd
  have h1 : TurnsAt (endsD run) (Inn l) := (turnsAt_inT (timesL run) fun r hr => ⟨turnsAt_adds (hsub r hr), turnsAt_cuts (hsub r hr)⟩).iff h.2
  have h2 := set_few2 h.1 h1
  rw [endsD_len] at h2
  omega
theorem factsOf_sum : ∀ (rs : List (List Dat)) (ls : List (List Sp)), (∀ (i : Nat) (r : List Dat) (l : List Sp), rs[i]? = some r → ls[i]? = some l → HeldL r l) → sumS (factsOf rs ls) ≤ rs.flatten.length
  | [], _, _ => Nat.zero_le _
  | _ :: _, [], _ => Nat.zero_le _
  | r :: rs, l :: ls, h => by
    have ih := factsOf_sum rs ls (fun i a b ha hb => h (i + 1) a b (by simpa using ha) (by simpa using hb))
    have h0 := held_few (h 0 r l rfl rfl)
    rw [factsOf_cons, List.flatten_cons, List.length_append]
    have h3 : sumS (factOf r l ++ factsOf rs ls) = sumS (factOf r l) + sumS (factsOf rs ls) := by unfold sumS; simp
    have h4 : sumS (factOf r l) ≤ l.length := by
      unfold factOf
      cases r with
      | nil => exact Nat.zero_le _
      | cons d r =>
        simp only
        split
        · exact Nat.zero_le _
        · unfold sumS factD; simp
    omega
theorem foldsTo_sum {s : List Dat} {fs : List FactP} (h : FoldsTo (runsL triD s) fs) : sumS fs ≤ s.length := by
  obtain ⟨ls, h1, h2, rfl⟩ := h
  have := factsOf_sum _ _ h2
  rwa [runsL_join triD _ s (Nat.le_refl _)] at this
theorem chgL_len : ∀ (n : Nat) (a b : List FactP) (t : Int), a.length + b.length ≤ n → (chgL a b t).length ≤ 2 * (sumS a + sumS b)
  | 0, a, b, t, h => by
    have h1 : a = [] := List.length_eq_zero_iff.1 (by omega)
    have h2 : b = [] := List.length_eq_zero_iff.1 (by omega)
    subst h1 h2
    rw [chgL_nil]; exact Nat.zero_le _
  | n + 1, a, b, t, h => by
    by_cases he : a = [] ∧ b = []
    · obtain ⟨rfl, rfl⟩ := he
      rw [chgL_nil]; exact Nat.zero_le _
    · have hl := tog_less he
      rw [chgL_step he, List.length_append]
      have h1 := chgT_len t (leastT a b, takeS a (leastT a b), takeS b (leastT a b))
      have h2 := chgL_len n (takeR a (leastT a b)) (takeR b (leastT a b)) t (by omega)
      have h3 := sumS_take a (leastT a b)
      have h4 := sumS_take b (leastT a b)
      simp only at h1
      omega
theorem minus_ok {a b : List Sp} (ha : ∀ q ∈ a, SpOk q) : ∀ q ∈ minusL a b, SpOk q := fun q hq => by
  obtain ⟨h1, h2⟩ := minusL_spec a b
  obtain ⟨x, hx, x1, x2⟩ := ((h2 _).1 (set_start h1 hq).1).1
  obtain ⟨y, hy, y1, y2⟩ := ((h2 _).1 (set_end h1 hq).1).1
  have k1 := ha x hx
  have k2 := ha y hy
  have k3 := h1.2 q hq
  unfold SpOk at *
  exact ⟨⟨by omega, by omega⟩, by omega, by omega⟩
theorem spansOf_ok {a : List FactP} (h : ∀ f ∈ a, ∀ q ∈ f.l, SpOk q) (x : Tri) : ∀ q ∈ spansOf a x, SpOk q := by
  unfold spansOf
  cases hq : a.find? (fun g => decide (triF g = x)) with
  | none => exact fun q h => by cases h
  | some g => exact h g (List.mem_of_find?_eq_some hq)
theorem chg_ok {a b : List FactP} {t : Int} (ra : RiseF a) (rb : RiseF b) (ha : ∀ f ∈ a, ∀ q ∈ f.l, SpOk q) (hb : ∀ f ∈ b, ∀ q ∈ f.l, SpOk q) {d : Dat} (h : d ∈ chgL a b t) : SpOk (spD d) := by
  obtain ⟨_, _, ⟨_, h⟩ | ⟨_, h⟩⟩ := chg_mem ra rb h
  · exact minus_ok (spansOf_ok hb _) _ h
  · exact minus_ok (spansOf_ok ha _) _ h
/-- the spans of a fold are of instants -/
theorem fold_ok {l : List Dat} {fs : List FactP} (hk : ∀ d ∈ l, SpOk (spD d)) (h : FoldsTo (runsL triD (sortsD 1 l)) fs) : ∀ f ∈ fs, ∀ q ∈ f.l, SpOk q := fun f hf q hq => by
  obtain ⟨ls, h1, h2, rfl⟩ := h
  obtain ⟨i, d, r, m, g1, g2, _, rfl⟩ := mem_factsOf _ _ f hf
  have hh := h2 i _ _ g1 g2
  have hrm : ∀ x ∈ d :: r, x ∈ l := fun x hx => ((sorts_ups l).2 x).1 (run_in_mem triD (List.mem_of_getElem? g1) hx)
  have key : ∀ τ, Inn m τ → ∃ x ∈ d :: r, Names x τ := fun τ hi => by
    have h3 := (hh.2 τ).1 hi
    have gen : ∀ (rs : List (List Dat)), inT (rs.map turnR) τ → ∃ r ∈ rs, Inn (addsL r) τ := fun rs => by
      induction rs with
      | nil => intro h; cases h
      | cons r rs ih =>
        rintro (⟨h, _⟩ | h)
        · exact ⟨r, List.mem_cons_self, h⟩
        · obtain ⟨q, hq, h⟩ := ih h
          exact ⟨q, List.mem_cons_of_mem _ hq, h⟩
    obtain ⟨o, ho, h4⟩ := gen _ h3
    obtain ⟨x, hx, _, hn⟩ := inn_adds.1 h4
    exact ⟨x, run_in_mem (fun d : Dat => d.t) ho hx, hn⟩
  obtain ⟨x, hx, x1, x2⟩ := key _ (set_start hh.1 hq).1
  obtain ⟨y, hy, y1, y2⟩ := key _ (set_end hh.1 hq).1
  have k1 := hk x (hrm x hx)
  have k2 := hk y (hrm y hy)
  have k3 := hh.1.2 q hq
  unfold SpOk spD at *
  simp only at k1 k2
  exact ⟨⟨by omega, by omega⟩, by omega, by omega⟩
end Go.Proofs.Ytbcdkfolmncjlaa

/-
  THE LAW SchemaLess.
-/
namespace Go.Proofs.Ytbcdkfolmncjlaa
open Go.RowKit Go.Shelf

/-- facts whose spans that are nil are so in length and capacity -/
def FNx (W : World) (A : Option Addr) (n : Nat) : Prop := ∀ b o, A = some ⟨b, o, none⟩ → ∀ j n' c', j < n → W.cell? ⟨b, o + j * 6 + 5, none⟩ = some (.slice none n' c') → n' = 0 ∧ c' = 0
theorem cellsX_one {f : FactP} {sv : Value} (h : ∃ A n c, sv = .slice A n c) : ∀ u ∈ cellsF (f, sv), u.oneCell' = true := fun u hu => by
  obtain ⟨A, n, c, rfl⟩ := h
  simp [cellsF] at hu
  rcases hu with rfl | rfl | rfl | rfl | rfl | rfl <;> rfl
/-- what both have -/
def cutL (a b : List Sp) : List Sp := ofL andF a b [] (endsL (a ++ b))
theorem cut_inn (a b : List Sp) (t : Int) : Inn (cutL a b) t ↔ Inn a t ∧ Inn b t := by
  have h := (of_set andF rfl a b).2 t
  rw [← innB_iff, ← innB_iff, ← innB_iff]
  unfold cutL
  rw [h]
  unfold andF
  simp
theorem cut_set (a b : List Sp) : SetL (cutL a b) := (of_set andF rfl a b).1
theorem cut_len (a b : List Sp) : (cutL a b).length ≤ a.length + b.length := by
  have h : TurnsAt (endsP a ++ endsP b) (Inn (cutL a b)) := (((turnsAt_inn a).more (fun x h => List.mem_append.2 (.inl h))).and ((turnsAt_inn b).more (fun x h => List.mem_append.2 (.inr h)))).iff (cut_inn a b)
  have h2 := set_few2 (cut_set a b) h
  have h3 : ∀ l : List Sp, (endsP l).length = 2 * l.length := fun l => by
    induction l with
    | nil => rfl
    | cons s l ih =>
      unfold endsP at ih ⊢
      simp [ih]
      omega
  rw [List.length_append, h3, h3] at h2
  omega
theorem cut_ok {a b : List Sp} (ha : ∀ s ∈ a, SpOk s) : ∀ s ∈ cutL a b, SpOk s := fun s hs => by
  have h0 := (cut_set a b).2 s hs
  obtain ⟨u, hu, u1, u2⟩ := ((cut_inn a b s.1).1 ⟨s, hs, Int.le_refl _, h0⟩).1
  obtain ⟨v, hv, v1, v2⟩ := ((cut_inn a b (s.2 - 1)).1 ⟨s, hs, by omega, by omega⟩).1
  obtain ⟨⟨p1, p2⟩, p3, p4⟩ := ha u hu
  obtain ⟨⟨q1, q2⟩, q3, q4⟩ := ha v hv
  exact ⟨⟨by omega, by omega⟩, by omega, by omega⟩
/-- what the law asks of what comes in -/
structure LsA (w : World) (A : Option Addr) (c : Nat) (fs : List FactP) (A2 : Option Addr) (c2 : Nat) (gs : List Bool) (A3 : Option Addr) (c3 : Nat) (is : List Sp) : Prop where
  f : FVa w (.slice A fs.length c) fs
  n : FNx w A fs.length
  u : fs.length ≤ 1048576 ∧ ∀ f ∈ fs, f.s.size + f.l.length ≤ 1048576
  z : ∀ f ∈ fs, f.s.size ≤ maxLen
  k : ∀ f ∈ fs, ∀ s ∈ f.l, SpOk s
  g : SlK w w.heap.size A2 gs
  gl : gs.length ≤ 9223372036854775807
  i : SlS w w.heap.size A3 is
  i0 : A3 = none → is.length = 0 ∧ c3 = 0
  il : is.length ≤ 9223372036854775807
/-- what is so after some rounds -/
structure LsE (fs : List FactP) (k : Nat) (ps : List (FactP × Value)) : Prop where
  l : LessF (fs.take k) (ps.map (·.1))
  n : ps.length ≤ k
  o : ∀ p ∈ ps, p.1.l.length ≤ 800 ∧ p.1.s.size ≤ maxLen ∧ ∀ s ∈ p.1.l, SpOk s
  s : sumS (ps.map (·.1)) ≤ sumS (fs.take k) + 50 * k
theorem LsE.skip {fs : List FactP} {k : Nat} {ps : List (FactP × Value)} (h : LsE fs k ps) (hk : k < fs.length) (ha : 10 ≤ fs[k].a) : LsE fs (k + 1) ps := by
  refine ⟨?_, by have := h.n; omega, h.o, ?_⟩
  · rw [List.take_succ_eq_append_getElem hk, ← List.append_nil (ps.map _)]
    exact h.l.append (LessF.drop _ ha LessF.nil)
  · have := h.s
    rw [sumS_snoc hk]
    omega
theorem LsE.put {fs : List FactP} {k : Nat} {ps : List (FactP × Value)} (h : LsE fs k ps) (hk : k < fs.length) (l : List Sp) (v : Value) (hl : LessF [fs[k]] [withL fs[k] l]) (h2 : l.length ≤ fs[k].l.length + 50) (h3 : l.length ≤ 800) (h4 : fs[k].s.size ≤ maxLen) (h5 : ∀ s ∈ l, SpOk s) : LsE fs (k + 1) (ps ++ [(withL fs[k] l, v)]) := by
  refine ⟨?_, by rw [List.length_append, List.length_singleton]; have := h.n; omega, fun p hp => ?_, ?_⟩
  · rw [List.take_succ_eq_append_getElem hk, List.map_append]
    exact h.l.append hl
  · rcases List.mem_append.1 hp with hp | hp
    · exact h.o p hp
    · rw [List.mem_singleton.1 hp]
      exact ⟨h3, h4, h5⟩
  · have := h.s
    rw [sumS_snoc hk, List.map_append, sumS_append]
    have e : sumS ([(withL fs[k] l, v)].map (·.1)) = l.length := by simp [sumS, withL]
    rw [e]
    omega
set_option maxRecDepth 100000 in
set_option maxHeartbeats 8000000 in
theorem less_law (A : Option Addr) (c : Nat) (fs : List FactP) (A2 : Option Addr) (c2 : Nat) (gs : List Bool) (A3 : Option Addr) (cI : Nat) (is : List Sp) (w : World) (H : LsA w A c fs A2 c2 gs A3 cI is) :
    Calls Try.prog 4 #[.slice A fs.length c, .slice A2 gs.length c2, .slice A3 is.length cI] w fun e w' => e = .returned (.bool true) ∧ Below w.heap.size w w' := by
  obtain ⟨i0, hi, hz0, hz1, hz2⟩ := info_parts infoF
  have HI : Hid (True) := trivial
  have hmx : 2000000000000 ≤ maxLen := by decide
  have HA := Lib.hid H
  have HGR := Lib.hid (fun X (hX : Below w.heap.size w X) => greatF_upto A c fs X (H.f.next hX) H.u.1 H.u.2)
  have hgl := H.gl
  have hil := H.il
  clear H
  go_enter Try.func4, Try.ntmps4
  go_wp2_with fail
  refine (alive_any w).mono ?_
  rintro e w1 ⟨rfl, hb1⟩
  have HB1 := Lib.hid hb1
  clear hb1
  go_wp2_with fail
  refine (HGR.out w1 HB1.out).mono ?_
  rintro e w2 ⟨⟨rfl, hl1, hs1⟩ | rfl, hb2⟩
  rotate_left
  · have HB2 := Lib.hid (HB1.out.trans (hb2.mono HB1.out.size))
    clear hb2 HGR
    go_wp2
    go_ret
    exact ⟨rfl, HB2.out⟩
  have HB2 := Lib.hid (HB1.out.trans (hb2.mono HB1.out.size))
  have HL1 := Lib.hid (And.intro hl1 hs1)
  clear hb2 HGR
  by_cases g1 : (1000 : Int) < (gs.length : Int)
  · go_wp2
    go_ret
    exact ⟨rfl, HB2.out⟩
  by_cases g2 : (50 : Int) < (is.length : Int)
  · go_wp2
    go_ret
    exact ⟨rfl, HB2.out⟩
  have hz : ∀ f ∈ fs, f.s.size ≤ maxLen ∧ f.l.length ≤ 9223372036854775807 := fun f hf => ⟨HA.out.z f hf, by have := sumS_mem hf; omega⟩
  have HSE := Lib.hid (refSet_big A3 cI is w2 w.heap.size (HA.out.i.next HB2.out (Nat.le_refl _)) hil)
  have HHO := Lib.hid (fun X (hX : Below w.heap.size w X) => holds_any A c fs X (HA.out.f.next hX) (by omega) (by omega) hz HA.out.k)
  have HIL : Hid (is.length ≤ 50) := by show _ ≤ _; omega
  have HGL : Hid (gs.length ≤ 1000) := by show _ ≤ _; omega
  clear hz hl1 hs1
  go_wp2_with fail
  refine HSE.out.mono ?_
  rintro e w3 ⟨rfl, nq, rfl⟩
  have HB3 : Hid (Below w.heap.size w (w2.drewN nq)) := below_ind HB2.out nq
  obtain ⟨w3, hw3⟩ : ∃ w3, w2.drewN nq = w3 := ⟨_, rfl⟩
  rw [hw3] at HB3 ⊢
  clear HSE hw3
  obtain ⟨sb, hsb⟩ : ∃ sb, setB is = sb := ⟨_, rfl⟩
  rw [hsb]
  cases sb with
  | false =>
    clear hsb
    go_wp2
    go_ret
    exact ⟨rfl, HB3.out⟩
  | true =>
  have HSB := Lib.hid hsb
  have HOX := Lib.hid (HHO.out w3 HB3.out)
  clear hsb HHO
  go_wp2_with fail
  refine HOX.out.mono ?_
  rintro e w4 ⟨rfl, hb4⟩
  have HB4 := Lib.hid (HB3.out.trans (hb4.mono HB3.out.size))
  clear hb4 HOX
  by_cases h0 : holdsE fs = 0
  rotate_left
  · obtain ⟨ec, hec⟩ : ∃ ec, holdsE fs = ec := ⟨_, rfl⟩
    rw [hec] at h0 ⊢
    have hd : (ec != 0) = true := by simp [h0]
    clear hec
    go_wp2
    go_ret
    exact ⟨rfl, HB4.out⟩
  have H0 := Lib.hid h0
  rw [h0]
  clear h0
  go_wp2
  go_loopg [9, 10] fs.length (fun g x i wr => ∃ (j : Nat) (ps : List (FactP × Value)), i = .int .i64 j ∧ j + g = fs.length ∧ Hid (OwnX wr w.heap.size x ps) ∧ Hid (LsE fs j ps) ∧ Hid (Below w.heap.size w wr))
  case atStart => exact ⟨0, [], rfl, by omega, ownX_nil _ _, ⟨LessF.nil, Nat.le_refl _, fun p h => (by cases h), Nat.zero_le _⟩, HB4.out⟩
  case round =>
    obtain ⟨j, ps, rfl, hj, HO, HE, HB⟩ := hrel
    cases gk with
    | zero =>
      have hjz : ¬ ((j : Int) < (fs.length : Int)) := by omega
      have hfv := HO.out.fva HB.out.size
      have hle := HE.out.l
      rw [List.take_of_length_le (by omega)] at hle
      have hh := hle.holds H0.out
      have hn := HE.out.n
      have ho := HE.out.o
      have hs9 := HE.out.s
      have hq : ∀ f ∈ ps.map (·.1), f.l.length ≤ 800 ∧ f.s.size ≤ maxLen ∧ ∀ s ∈ f.l, SpOk s := fun f hf => by obtain ⟨p, hp, rfl⟩ := List.mem_map.1 hf; exact ho p hp
      have hn9 : (ps.map (·.1)).length ≤ j := by rw [List.length_map]; exact hn
      obtain ⟨L, hL⟩ : ∃ L, ps.map (·.1) = L := ⟨_, rfl⟩
      rw [hL] at hfv hh hs9 hq hn9
      obtain ⟨A9, c9, rfl, _⟩ := id hfv
      have HHB := Lib.hid (holds_big A9 c9 L wr hfv (by have := HL1.out.1; omega) (by have := sumS_pre fs j; have := HL1.out; omega)
        (fun f hf => by have := (hq f hf).1; omega) (fun f hf => ⟨(hq f hf).2.1, by have := (hq f hf).1; omega⟩) (fun f hf => (hq f hf).2.2))
      rw [hh] at HHB
      clear hn ho hs9 hq hn9 hL HE HO
      clear hfv hle hh
      go_wp2_with fail
      refine HHB.out.mono ?_
      rintro e w5 ⟨rfl, hb5⟩
      have HB5 := Lib.hid (HB.out.trans (hb5.mono HB.out.size))
      clear hb5 HHB
      go_wp2
      go_ret
      exact ⟨rfl, HB5.out⟩
    | succ g =>
      have hjz : (j : Int) < (fs.length : Int) := by omega
      have hjn : j < fs.length := by omega
      have hjb : j ≤ 150 := by have := HL1.out.1; omega
      obtain ⟨b, o, sv, rfl, hlt, hc, hsv⟩ := fva_at HA.out.f hjn
      have HNN := Lib.hid (fun n' c' (e : sv = .slice none n' c') => HA.out.n b o rfl j n' c' hjn (by rw [← e]; exact hc.2.2.2.2.2))
      have hsm := sumS_mem (List.getElem_mem hjn)
      have hsk := HA.out.k _ (List.getElem_mem hjn)
      have hsz := HA.out.z _ (List.getElem_mem hjn)
      obtain ⟨f, hf⟩ : ∃ f, fs[j] = f := ⟨_, rfl⟩
      have HF := Lib.hid hf
      rw [hf] at hc hsv hsm hsk hsz
      obtain ⟨As, cs, rfl, hsl, hs2, hs3⟩ := id hsv
      have HSM : Hid (f.l.length ≤ 750) := by show _ ≤ _; have := HL1.out.2; omega
      have HSK := Lib.hid hsk
      have HSZ := Lib.hid hsz
      have HSL := Lib.hid hsl
      have HSC := Lib.hid (And.intro hs2 hs3)
      have hcr := hc.next HB.out hlt
      have c0 := hcr.1
      have c1 := hcr.2.1
      have c2 := hcr.2.2.1
      have c3 := hcr.2.2.2.1
      have c4 := hcr.2.2.2.2.1
      have c5 := hcr.2.2.2.2.2
      obtain ⟨wb, hwb⟩ : ∃ wb, wr.alloc (.cells #[.int .i64 f.e, .int .i64 f.a, .int .i64 f.k, .int .i64 f.m, .string f.s, .slice As f.l.length cs] 30) = wb := ⟨_, rfl⟩
      have hal : Below wr.heap.size wr wb := by rw [← hwb]; exact (Below.refl _ _).alloc (Nat.le_refl _) _
      have hbx := fcBx_new wr f (.slice As f.l.length cs)
      rw [hwb] at hbx
      have HBX := Lib.hid hbx
      have HAL := Lib.hid hal
      have HBB := Lib.hid (HB.out.trans (hal.mono HB.out.size))
      clear hf hc hsv hsl hs2 hs3 hcr hlt hsm hsk hsz hal hbx
      by_cases ha : f.a < 10
      · have g3 : ¬ (10 : Int) ≤ f.a := by omega
        have g3' : decide ((10 : Int) ≤ f.a) = false := decide_eq_false g3
        have g4 : decide (f.a < (10 : Int)) = true := decide_eq_true ha
        have HAT := Lib.hid ha
        have x0 := HBX.out.k0
        have x1 := HBX.out.k1
        have x2 := HBX.out.k2
        have x3 := HBX.out.k3
        have x4 := HBX.out.k4
        have x5 := HBX.out.k5
        obtain ⟨wl, hwl⟩ : ∃ wl, wb.alloc (.cells #[.int .i64 f.e, .int .i64 f.a, .int .i64 f.k, .int .i64 f.m, .string f.s, .slice As f.l.length cs] 30) = wl := ⟨_, rfl⟩
        have hal2 : Below wb.heap.size wb wl := by rw [← hwl]; exact (Below.refl _ _).alloc (Nat.le_refl _) _
        have HBA := Lib.hid (HBB.out.trans (hal2.mono HBB.out.size))
        have hrl : Below wr.heap.size wr wl := HAL.out.trans (hal2.mono HAL.out.size)
        have HOA := Lib.hid (HO.out.next hrl HB.out.size)
        have HSA : Hid (SX wl w.heap.size (.slice As f.l.length cs) f.l) := .inr ⟨As, cs, rfl, HSL.out.next HBA.out (Nat.le_refl _), HSC.out⟩
        have HLC : Hid (∀ (j : Nat) (u : Value), (cellsF (f, .slice As f.l.length cs))[j]? = some u → wl.cell? ((⟨wb.heap.size, 0, none⟩ : Addr).add j) = some u) := fun j u h => by rw [← hwl]; exact cell_lit wb #[.int .i64 f.e, .int .i64 f.a, .int .i64 f.k, .int .i64 f.m, .string f.s, .slice As f.l.length cs] 30 j u h
        clear hal2 hrl
        go_wp2_with (at_builtin; refine wpList_append_own _ rfl _ _ 24 rfl w.heap.size 30 i0 (.agg #[.int .i64 0, .int .i64 0, .int .i64 0, .int .i64 0, .string ⟨#[]⟩, .slice none 0 0]) 6 72 Try.underlying24 hi hz0 hz1 hz2 rfl (by decide) _ _ _ rfl HOA.out.1 ⟨wb.heap.size, 0, none⟩ 1 1 (cellsF (f, .slice As f.l.length cs)) rfl rfl HLC.out (cellsX_one ⟨_, _, _, rfl⟩) (by have := HE.out.n; omega) (by have := HE.out.n; omega) HBA.out.size ?_; intro v8 w8 hown hgrow hnil; have HB8 : Hid (Below w.heap.size w w8) := HBA.out.trans (below_ownX HOA.out hgrow HBA.out.size); have HO8 : Hid (OwnX w8 w.heap.size v8 (ps ++ [(f, .slice As f.l.length cs)])) := HOA.out.snoc HBA.out.size HSA.out hown hgrow; clear hown hgrow hnil)
        go_roundg g
        case measure => omega
        case rel => exact ⟨j + 1, ps ++ [(f, .slice As f.l.length cs)], by go_num, by omega, HO8, by show LsE _ _ _; have q := HE.out.put hjn fs[j].l (.slice As f.l.length cs) (LessF.keep _ (by rw [HF.out]; exact HAT.out) LessF.nil) (by omega) (by rw [HF.out]; have := HSM.out; omega) (by rw [HF.out]; exact HSZ.out) (by rw [HF.out]; exact HSK.out); rw [HF.out] at q; exact q, HB8.out⟩
      · have g3 : (10 : Int) ≤ f.a := by omega
        have g3' : decide ((10 : Int) ≤ f.a) = true := decide_eq_true g3
        have g4 : decide (f.a < (10 : Int)) = false := decide_eq_false ha
        have HAT := Lib.hid g3
        have x1 := HBX.out.k1
        have x5 := HBX.out.k5
        have HOF := Lib.hid (ofAnd_any As A3 cs cI f.l is wb ((HSL.out.next HBB.out (Nat.le_refl _)).more HBB.out.size) ((HA.out.i.next HBB.out (Nat.le_refl _)).more HBB.out.size) (fun e => by subst e; exact HNN.out _ _ rfl) HA.out.i0 (by have := HSM.out; omega) (by have := HIL.out; omega))
        obtain ⟨l5, hl5⟩ : ∃ l, cutL f.l is = l := ⟨_, rfl⟩
        have hcut := cut_len f.l is
        have hcs := cut_set f.l is
        have hci := cut_inn f.l is
        have hck := cut_ok (b := is) HSK.out
        rw [show ofL andF f.l is [] (endsL (f.l ++ is)) = l5 from hl5] at HOF
        rw [hl5] at hcut hcs hci hck
        have HCU := Lib.hid (And.intro hcut (And.intro hcs (And.intro hci hck)))
        clear hl5 hcut hcs hci hck
        go_wp2_with fail
        refine HOF.out.mono ?_
        rintro e w5 ⟨v5, he5, hown, hb5⟩
        have hsv5 := ownS_sv hown
        obtain ⟨A5, c5, hv5, hq5⟩ := id hsv5
        rw [hv5] at he5 hsv5
        subst he5
        have hbx5 := HBX.out.next hb5
        have hsv6 := SV.boxF (u := .slice A5 l5.length c5) hsv5 hbx5
        have hbx6 := hbx5.set5 (u := .slice A5 l5.length c5) l5
        obtain ⟨w6, hw6⟩ : ∃ w6, w5.setCell ⟨wr.heap.size, 5, none⟩ (.slice A5 l5.length c5) = w6 := ⟨_, rfl⟩
        have hb6 : Below wr.heap.size wr w6 := by rw [← hw6]; exact (HAL.out.trans (hb5.mono HAL.out.size)).setCell (p := ⟨wr.heap.size, 5, none⟩) (Nat.le_refl _) _
        rw [hw6] at hsv6 hbx6
        have hfz : w5.frozen? ⟨wr.heap.size, 5, none⟩ = false := by unfold FcBx at hbx5; simp [World.frozen?, hbx5]
        have hc5 := hbx5.k5
        have HBX6 : Hid (FcBx w6 wr.heap.size (withL f l5) (.slice A5 l5.length c5)) := hbx6
        have HSV6 := Lib.hid hsv6
        have HW6 := Lib.hid hb6
        have HB6 := Lib.hid (HB.out.trans (hb6.mono HB.out.size))
        have HO6 := Lib.hid (HO.out.next hb6 HB.out.size)
        have HPUT : Hid (l5 ≠ [] → Hid (LsE fs (j + 1) (ps ++ [(withL f l5, .slice A5 l5.length c5)]))) := fun h0 => by
          have hcu := HCU.out
          have hk1 := HSM.out
          have hk2 := HIL.out
          have q := HE.out.put hjn l5 (.slice A5 l5.length c5) (by rw [HF.out]; exact LessF.cut f l5 HAT.out hcu.2.1 h0 (fun t ht => ((hcu.2.2.1 t).1 ht).1) LessF.nil) (by rw [HF.out]; omega) (by omega) (by rw [HF.out]; exact HSZ.out) hcu.2.2.2
          rw [HF.out] at q
          exact q
        clear hown hb5 hsv5 hv5 hq5 hsv6 hbx6 hb6 x1 x5 hbx5 HOF
        go_upto_region 14 with (fail)
        try rw [hw6]
        clear hw6 hfz hc5
        have k1 : w6.cell? ⟨wr.heap.size, 1, none⟩ = some (.int .i64 f.a) := HBX6.out.k1
        have k5 : w6.cell? ⟨wr.heap.size, 5, none⟩ = some (.slice A5 l5.length c5) := HBX6.out.k5
        by_cases h0 : l5 = []
        · have z1 : decide (0 < l5.length) = false := by rw [h0]; rfl
          have z2 : ¬ 0 < l5.length := by rw [h0]; simp
          clear h0 HPUT
          go_wp2
          go_roundg g
          case measure => omega
          case rel => exact ⟨j + 1, ps, by go_num, by omega, HO6.out, HE.out.skip hjn (by rw [HF.out]; exact HAT.out), HB6.out⟩
        · have HPT := HPUT.out h0
          have z2 : 0 < l5.length := List.length_pos_iff.2 h0
          have z1 : decide (0 < l5.length) = true := decide_eq_true z2
          clear h0 HPUT
          by_cases hj2 : gs.length ≤ j
          · have y1 : decide (gs.length ≤ j) = true := decide_eq_true hj2
            have y2 : (gs.length : Int) ≤ (j : Int) := by omega
            have k2 : w6.cell? ⟨wr.heap.size, 2, none⟩ = some (.int .i64 f.k) := HBX6.out.k2
            have k0 : w6.cell? ⟨wr.heap.size, 0, none⟩ = some (.int .i64 f.e) := HBX6.out.k0
            have k3 : w6.cell? ⟨wr.heap.size, 3, none⟩ = some (.int .i64 f.m) := HBX6.out.k3
            have k4 : w6.cell? ⟨wr.heap.size, 4, none⟩ = some (.string f.s) := HBX6.out.k4
            obtain ⟨wl, hwl⟩ : ∃ wl, w6.alloc (.cells #[.int .i64 f.e, .int .i64 f.a, .int .i64 f.k, .int .i64 f.m, .string f.s, .slice A5 l5.length c5] 30) = wl := ⟨_, rfl⟩
            have hal2 : Below w6.heap.size w6 wl := by rw [← hwl]; exact (Below.refl _ _).alloc (Nat.le_refl _) _
            have HBA := Lib.hid (HB6.out.trans (hal2.mono HB6.out.size))
            have HOA := Lib.hid (HO6.out.next hal2 HB6.out.size)
            have HSA : Hid (SX wl w.heap.size (.slice A5 l5.length c5) (withL f l5).l) := .inl (HSV6.out.next hal2)
            have HLC : Hid (∀ (j : Nat) (u : Value), (cellsF (withL f l5, .slice A5 l5.length c5))[j]? = some u → wl.cell? ((⟨w6.heap.size, 0, none⟩ : Addr).add j) = some u) := fun j u h => by rw [← hwl]; exact cell_lit w6 #[.int .i64 f.e, .int .i64 f.a, .int .i64 f.k, .int .i64 f.m, .string f.s, .slice A5 l5.length c5] 30 j u h
            clear hal2
            go_wp2_with (at_builtin; refine wpList_append_own _ rfl _ _ 24 rfl w.heap.size 30 i0 (.agg #[.int .i64 0, .int .i64 0, .int .i64 0, .int .i64 0, .string ⟨#[]⟩, .slice none 0 0]) 6 72 Try.underlying24 hi hz0 hz1 hz2 rfl (by decide) _ _ _ rfl HOA.out.1 ⟨w6.heap.size, 0, none⟩ 1 1 (cellsF (withL f l5, .slice A5 l5.length c5)) rfl rfl HLC.out (cellsX_one ⟨_, _, _, rfl⟩) (by have := HE.out.n; omega) (by have := HE.out.n; omega) HBA.out.size ?_; intro v8 w8 hown hgrow hnil; have HB8 : Hid (Below w.heap.size w w8) := HBA.out.trans (below_ownX HOA.out hgrow HBA.out.size); have HO8 : Hid (OwnX w8 w.heap.size v8 (ps ++ [(withL f l5, .slice A5 l5.length c5)])) := HOA.out.snoc HBA.out.size HSA.out hown hgrow; clear hown hgrow hnil)
            go_roundg g
            case measure => omega
            case rel => exact ⟨j + 1, ps ++ [(withL f l5, .slice A5 l5.length c5)], by go_num, by omega, HO8, HPT, HB8.out⟩
          · have hjl : j < gs.length := by omega
            have y1 : decide (gs.length ≤ j) = false := decide_eq_false hj2
            have y2 : ¬ (gs.length : Int) ≤ (j : Int) := by omega
            have y3 : (j : Int) < (gs.length : Int) := by omega
            obtain ⟨ga, rfl, hgl2, hgc⟩ := HA.out.g (fun e => by rw [e] at hjl; simp at hjl)
            have g0 : w6.cell? (ga.add j) = some (.bool gs[j]) := (HB6.out.cell (p := ga.add j) (by rw [add_block]; exact hgl2)).trans (hgc j _ (List.getElem?_eq_getElem hjl))
            obtain ⟨gb, hgb⟩ : ∃ x, gs[j] = x := ⟨_, rfl⟩
            rw [hgb] at g0
            clear hgb hgc hgl2
            cases gb with
            | true =>
              go_wp2
              go_roundg g
              case measure => omega
              case rel => exact ⟨j + 1, ps, by go_num, by omega, HO6.out, HE.out.skip hjn (by rw [HF.out]; exact HAT.out), HB6.out⟩
            | false =>
              have k2 : w6.cell? ⟨wr.heap.size, 2, none⟩ = some (.int .i64 f.k) := HBX6.out.k2
              have k0 : w6.cell? ⟨wr.heap.size, 0, none⟩ = some (.int .i64 f.e) := HBX6.out.k0
              have k3 : w6.cell? ⟨wr.heap.size, 3, none⟩ = some (.int .i64 f.m) := HBX6.out.k3
              have k4 : w6.cell? ⟨wr.heap.size, 4, none⟩ = some (.string f.s) := HBX6.out.k4
              obtain ⟨wl, hwl⟩ : ∃ wl, w6.alloc (.cells #[.int .i64 f.e, .int .i64 f.a, .int .i64 f.k, .int .i64 f.m, .string f.s, .slice A5 l5.length c5] 30) = wl := ⟨_, rfl⟩
              have hal2 : Below w6.heap.size w6 wl := by rw [← hwl]; exact (Below.refl _ _).alloc (Nat.le_refl _) _
              have HBA := Lib.hid (HB6.out.trans (hal2.mono HB6.out.size))
              have HOA := Lib.hid (HO6.out.next hal2 HB6.out.size)
              have HSA : Hid (SX wl w.heap.size (.slice A5 l5.length c5) (withL f l5).l) := .inl (HSV6.out.next hal2)
              have HLC : Hid (∀ (j : Nat) (u : Value), (cellsF (withL f l5, .slice A5 l5.length c5))[j]? = some u → wl.cell? ((⟨w6.heap.size, 0, none⟩ : Addr).add j) = some u) := fun j u h => by rw [← hwl]; exact cell_lit w6 #[.int .i64 f.e, .int .i64 f.a, .int .i64 f.k, .int .i64 f.m, .string f.s, .slice A5 l5.length c5] 30 j u h
              clear hal2
              go_wp2_with (at_builtin; refine wpList_append_own _ rfl _ _ 24 rfl w.heap.size 30 i0 (.agg #[.int .i64 0, .int .i64 0, .int .i64 0, .int .i64 0, .string ⟨#[]⟩, .slice none 0 0]) 6 72 Try.underlying24 hi hz0 hz1 hz2 rfl (by decide) _ _ _ rfl HOA.out.1 ⟨w6.heap.size, 0, none⟩ 1 1 (cellsF (withL f l5, .slice A5 l5.length c5)) rfl rfl HLC.out (cellsX_one ⟨_, _, _, rfl⟩) (by have := HE.out.n; omega) (by have := HE.out.n; omega) HBA.out.size ?_; intro v8 w8 hown hgrow hnil; have HB8 : Hid (Below w.heap.size w w8) := HBA.out.trans (below_ownX HOA.out hgrow HBA.out.size); have HO8 : Hid (OwnX w8 w.heap.size v8 (ps ++ [(withL f l5, .slice A5 l5.length c5)])) := HOA.out.snoc HBA.out.size HSA.out hown hgrow; clear hown hgrow hnil)
              go_roundg g
              case measure => omega
              case rel => exact ⟨j + 1, ps ++ [(withL f l5, .slice A5 l5.length c5)], by go_num, by omega, HO8, HPT, HB8.out⟩
end Go.Proofs.Ytbcdkfolmncjlaa
