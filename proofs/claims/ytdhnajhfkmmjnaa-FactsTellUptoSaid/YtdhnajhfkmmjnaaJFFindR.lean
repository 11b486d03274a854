import Derived.Deep.Slices
import Derived.JoinedCond
import Derived.Test.YtdhnajhfkmmjnaaJDComp
import Derived.Test.YtdhnajhfkmmjnaaJSArgs
import Derived.Test.YtdhnajhfkmmjnaaJDSl
import Derived.Shelf.RegionOpen
import Derived.RangeFuncNested
import Derived.WalkMore
import Derived.BigQuiet
import Derived.Test.YtdhnajhfkmmjnaaJFTgL
import Derived.Test.YtdhnajhfkmmjnaaJVSl
import Derived.Test.YtdhnajhfkmmjnaaJFMayP
import Derived.Test.YtdhnajhfkmmjnaaJFLastP
import Derived.Test.YtdhnajhfkmmjnaaJFSame
import Derived.Test.YtdhnajhfkmmjnaaJFCmpR
import Derived.Test.YtdhnajhfkmmjnaaJFRunT
/-
  CONTRACTS: the document's Same of two lists of datoms that are equal; Great; arguments.
-/
namespace Go.Proofs.Ytdhnajhfkmmjnaa
open Go.ChangeShapes Go.WideShapes Go.ChangeAt Go.RowKit Go.Joins Go.Deep

set_option maxRecDepth 100000 in
set_option maxHeartbeats 2000000 in
theorem sameD_any (A A' : Option Addr) (c c' : Nat) (l : List Dat) (w : World) (B : Nat) (hs : SlD w B A l) (hs' : SlD w B A' l) (hl : l.length ≤ 2000000000000) :
    Calls Try.prog 16 #[.slice A l.length c, .slice A' l.length c'] w fun e w' => e = .returned (.bool true) ∧ ∃ n, w' = w.drewN n := by
  go_enter Try.func16, Try.ntmps16
  go_wp2
  go_loopw [5] (fun i wr => ∃ j n : Nat, j ≤ l.length ∧ i = .int .i64 j ∧ wr = w.drewN n) (fun i _ => l.length - (intOf i).toNat)
  case atStart => exact ⟨0, 0, by omega, rfl, rfl⟩
  case round =>
    obtain ⟨j, n, hj, rfl, rfl⟩ := hrel
    by_cases h1 : j < l.length
    · have hji : (j : Int) < (l.length : Int) := by omega
      obtain ⟨b, o, rfl, _, hp⟩ := hs.at_ h1
      obtain ⟨b', o', rfl, _, hp'⟩ := hs'.at_ h1
      obtain ⟨x, hpe⟩ : ∃ p, l[j] = p := ⟨_, rfl⟩
      rw [hpe] at hp hp'
      have c0 := hp.c0
      have c1 := hp.c1
      have c2 := hp.c2
      have c3 := hp.c3
      have c4 := hp.c4
      have c5 := hp.c5
      have c6 := hp.c6
      have c7 := hp.c7
      have c8 := hp.c8
      have d0 := hp'.c0
      have d1 := hp'.c1
      have d2 := hp'.c2
      have d3 := hp'.c3
      have d4 := hp'.c4
      have d5 := hp'.c5
      have d6 := hp'.c6
      have d7 := hp'.c7
      have d8 := hp'.c8
      have hq := fun w => neD_run x x w
      rw [decide_eq_true (rfl : x = x)] at hq
      clear hp hp' hpe hs hs'
      go_wp2
      go_quiet (fail)
      go_wp2
      go_roundw
      case rel => exact ⟨j + 1, _, by omega, by go_num, rfl⟩
      case measure => simp [intOf]; omega
    · have hji : ¬ (j : Int) < (l.length : Int) := by omega
      go_wp2
      go_ret
      exact ⟨rfl, n, rfl⟩
/-- Great answers 0 or 1. -/
def GreatEnd (w : World) (e : Ending) (w' : World) : Prop := (e = .returned (.int .i64 0) ∨ e = .returned (.int .i64 1)) ∧ w = w'
end Go.Proofs.Ytdhnajhfkmmjnaa

/-
  PLAIN FACTS: datoms, and behind them the changes from their fold to some facts, are folded to these.
-/
namespace Go.Proofs.Ytdhnajhfkmmjnaa
open VOrd (IsOrd lexO lex_is ordI_is ordT_is ordT)

/-- the difference of two sets is there -/
theorem minusL_spec (a b : List Sp) : SetL (minusL a b) ∧ ∀ t, Inn (minusL a b) t ↔ Inn a t ∧ ¬ Inn b t := by
  obtain ⟨h1, h2⟩ := of_set (fun x y => x && !y) rfl a b
  have hr : ∀ t, Inn (ofL (fun x y => x && !y) a b [] (endsL (a ++ b))) t ↔ Inn a t ∧ ¬ Inn b t := fun t => by
    have := h2 t
    unfold innB at this
    rw [Bool.eq_iff_iff] at this
    simpa using this
  rw [minusL_is h1 hr]
  exact ⟨h1, hr⟩
theorem rise_cons {f : FactP} {a : List FactP} (h : RiseF (f :: a)) : (∀ g ∈ a, ordTr (triF f) (triF g) < 0) ∧ RiseF a := List.pairwise_cons.1 h
/-- the least triple stands at none's back -/
theorem least_le {a b : List FactP} (ha : RiseF a) (hb : RiseF b) : (∀ g ∈ a, ordTr (leastT a b) (triF g) ≤ 0) ∧ ∀ g ∈ b, ordTr (leastT a b) (triF g) ≤ 0 := by
  have zz : ∀ x, ordTr x x = 0 := fun x => (ordTr_is.zero x x).2 rfl
  have head : ∀ (f : FactP) (r : List FactP), RiseF (f :: r) → ∀ p, ordTr p (triF f) ≤ 0 → ∀ g ∈ f :: r, ordTr p (triF g) ≤ 0 := fun f r h p hp g hg => by
    rcases List.mem_cons.1 hg with rfl | hg
    · exact hp
    · exact ordTr_is.trans _ _ _ hp (Int.le_of_lt ((rise_cons h).1 g hg))
  cases a with
  | nil =>
    cases b with
    | nil => exact ⟨(fun g h => by cases h), (fun g h => by cases h)⟩
    | cons g b => exact ⟨(fun g h => by cases h), head g b hb _ (by show ordTr (triF g) (triF g) ≤ 0; rw [zz]; decide)⟩
  | cons f a =>
    cases b with
    | nil => exact ⟨head f a ha _ (by show ordTr (triF f) (triF f) ≤ 0; rw [zz]; decide), (fun g h => by cases h)⟩
    | cons g b =>
      by_cases h : ordTr (triF f) (triF g) < 0
      · have e : leastT (f :: a) (g :: b) = triF f := by show (if _ then _ else _) = _; rw [if_pos h]
        rw [e]
        exact ⟨head f a ha _ (by rw [zz]; decide), head g b hb _ (Int.le_of_lt h)⟩
      · have e : leastT (f :: a) (g :: b) = triF g := by show (if _ then _ else _) = _; rw [if_neg h]
        rw [e]
        have hs := ordTr_is.swap (triF f) (triF g)
        exact ⟨head f a ha _ (by omega), head g b hb _ (by rw [zz]; decide)⟩
theorem take_spans {a : List FactP} (ha : RiseF a) {p : Tri} (hp : ∀ g ∈ a, ordTr p (triF g) ≤ 0) : takeS a p = spansOf a p ∧ RiseF (takeR a p) ∧ (∀ g ∈ takeR a p, triF g ≠ p) ∧ (∀ x, x ≠ p → spansOf (takeR a p) x = spansOf a x) ∧ ∀ g ∈ a, triF g ≠ p → g ∈ takeR a p := by
  cases a with
  | nil => exact ⟨rfl, ha, (fun g h => by cases h), fun x _ => rfl, (fun g h => by cases h)⟩
  | cons f r =>
    obtain ⟨h1, h2⟩ := rise_cons ha
    by_cases hf : triF f = p
    · have e1 : takeS (f :: r) p = f.l := by unfold takeS; simp [hf]
      have e2 : takeR (f :: r) p = r := by unfold takeR; simp [hf]
      rw [e1, e2]
      refine ⟨by rw [← hf]; exact (spansOf_mem ha (by simp)).symm, h2, fun g hg e => ?_, fun x hx => ?_, fun g hg hne => ?_⟩
      · have := h1 g hg
        rw [hf, e] at this
        exact tri_irr _ this
      · unfold spansOf
        have hd : decide (triF f = x) = false := decide_eq_false (fun h => hx (by rw [← h, hf]))
        rw [List.find?_cons, hd]
      · rcases List.mem_cons.1 hg with rfl | hg
        · exact absurd hf hne
        · exact hg
    · have e1 : takeS (f :: r) p = [] := by unfold takeS; simp [hf]
      have e2 : takeR (f :: r) p = f :: r := by unfold takeR; simp [hf]
      have hlt : ∀ g ∈ f :: r, triF g ≠ p := fun g hg e => by
        rcases List.mem_cons.1 hg with rfl | hg
        · exact hf e
        · have k1 := h1 g hg
          have k2 := hp f (by simp)
          rw [e] at k1
          have k3 := ordTr_is.swap (triF f) p
          omega
      rw [e1, e2]
      exact ⟨(spansOf_none hlt).symm, ha, hlt, fun x _ => rfl, fun g hg _ => hg⟩
theorem tog_is : ∀ (n : Nat) (a b : List FactP), RiseF a → RiseF b → a.length + b.length ≤ n →
    (∀ q ∈ togL n a b, q.2.1 = spansOf a q.1 ∧ q.2.2 = spansOf b q.1 ∧ ((∃ f ∈ a, triF f = q.1) ∨ ∃ f ∈ b, triF f = q.1)) ∧ ∀ x, ((∃ f ∈ a, triF f = x) ∨ ∃ f ∈ b, triF f = x) → ∃ q ∈ togL n a b, q.1 = x
  | 0, a, b, _, _, h => by
    have h1 : a = [] := List.length_eq_zero_iff.1 (by omega)
    have h2 : b = [] := List.length_eq_zero_iff.1 (by omega)
    subst h1 h2
    exact ⟨(fun q hq => by cases hq), fun x hx => by rcases hx with ⟨f, hf, _⟩ | ⟨f, hf, _⟩ <;> cases hf⟩
  | n + 1, a, b, ha, hb, h => by
    by_cases he : a = [] ∧ b = []
    · obtain ⟨rfl, rfl⟩ := he
      rw [togL_nil]
      exact ⟨(fun q hq => by cases hq), fun x hx => by rcases hx with ⟨f, hf, _⟩ | ⟨f, hf, _⟩ <;> cases hf⟩
    · have hl := tog_less he
      obtain ⟨p1, p2⟩ := least_le ha hb
      have hpm : (∃ f ∈ a, triF f = leastT a b) ∨ ∃ f ∈ b, triF f = leastT a b := by
        cases a with
        | nil =>
          cases b with
          | nil => exact absurd ⟨rfl, rfl⟩ he
          | cons g b => exact .inr ⟨g, by simp, rfl⟩
        | cons f a =>
          cases b with
          | nil => exact .inl ⟨f, by simp, rfl⟩
          | cons g b =>
            by_cases h : ordTr (triF f) (triF g) < 0
            · exact .inl ⟨f, by simp, by show _ = (if _ then _ else _); rw [if_pos h]⟩
            · exact .inr ⟨g, by simp, by show _ = (if _ then _ else _); rw [if_neg h]⟩
      obtain ⟨p, hp⟩ : ∃ p, leastT a b = p := ⟨_, rfl⟩
      rw [hp] at hl p1 p2 hpm
      obtain ⟨s1, s2, s3, s4, s5⟩ := take_spans ha p1
      obtain ⟨t1, t2, t3, t4, t5⟩ := take_spans hb p2
      obtain ⟨i1, i2⟩ := tog_is n (takeR a p) (takeR b p) s2 t2 (by omega)
      have e : togL (n + 1) a b = (p, takeS a p, takeS b p) :: togL n (takeR a p) (takeR b p) := by
        show (if a = [] ∧ b = [] then [] else _) = _
        rw [if_neg he, hp]
      rw [e]
      refine ⟨fun q hq => ?_, fun x hx => ?_⟩
      · rcases List.mem_cons.1 hq with rfl | hq
        · exact ⟨s1, t1, hpm⟩
        · obtain ⟨j1, j2, j3⟩ := i1 q hq
          have hne : q.1 ≠ p := by
            rcases j3 with ⟨f, hf, e⟩ | ⟨f, hf, e⟩
            · rw [← e]; exact s3 f hf
            · rw [← e]; exact t3 f hf
          refine ⟨j1.trans (s4 _ hne), j2.trans (t4 _ hne), ?_⟩
          rcases j3 with ⟨f, hf, e⟩ | ⟨f, hf, e⟩
          · exact .inl ⟨f, (takeR_sub _ _).subset hf, e⟩
          · exact .inr ⟨f, (takeR_sub _ _).subset hf, e⟩
      · by_cases hxp : x = p
        · exact ⟨_, List.mem_cons_self, hxp.symm⟩
        · obtain ⟨q, hq, hqe⟩ := i2 x (by
            rcases hx with ⟨f, hf, e⟩ | ⟨f, hf, e⟩
            · exact .inl ⟨f, s5 f hf (by rw [e]; exact hxp), e⟩
            · exact .inr ⟨f, t5 f hf (by rw [e]; exact hxp), e⟩)
          exact ⟨q, List.mem_cons_of_mem _ hq, hqe⟩
/-- what is among the changes -/
theorem chg_mem {a b : List FactP} {t : Int} {d : Dat} (ha : RiseF a) (hb : RiseF b) (h : d ∈ chgL a b t) :
    d.t = t ∧ ((∃ f ∈ a, triF f = triD d) ∨ ∃ f ∈ b, triF f = triD d) ∧ ((d.add = true ∧ spD d ∈ minusL (spansOf b (triD d)) (spansOf a (triD d))) ∨ (d.add = false ∧ spD d ∈ minusL (spansOf a (triD d)) (spansOf b (triD d)))) := by
  obtain ⟨q, hq, hd⟩ := List.mem_flatMap.1 h
  obtain ⟨h1, h2, h3⟩ := (tog_is _ a b ha hb (Nat.le_refl _)).1 q hq
  obtain ⟨x, was, is⟩ := q
  simp only at h1 h2 h3
  subst h1 h2
  unfold chgT at hd
  rcases List.mem_append.1 hd with hd | hd
  · obtain ⟨s, hs, rfl⟩ := List.mem_map.1 hd
    exact ⟨rfl, h3, .inl ⟨rfl, hs⟩⟩
  · obtain ⟨s, hs, rfl⟩ := List.mem_map.1 hd
    exact ⟨rfl, h3, .inr ⟨rfl, hs⟩⟩
theorem mem_chg {a b : List FactP} {t : Int} (ha : RiseF a) (hb : RiseF b) {x : Tri} (hx : (∃ f ∈ a, triF f = x) ∨ ∃ f ∈ b, triF f = x) {s : Sp} :
    (s ∈ minusL (spansOf b x) (spansOf a x) → mkD x t true s ∈ chgL a b t) ∧ (s ∈ minusL (spansOf a x) (spansOf b x) → mkD x t false s ∈ chgL a b t) := by
  obtain ⟨q, hq, rfl⟩ := (tog_is _ a b ha hb (Nat.le_refl _)).2 x hx
  obtain ⟨h1, h2, _⟩ := (tog_is _ a b ha hb (Nat.le_refl _)).1 q hq
  obtain ⟨x, was, is⟩ := q
  simp only at h1 h2
  subst h1 h2
  refine ⟨fun h => List.mem_flatMap.2 ⟨_, hq, ?_⟩, fun h => List.mem_flatMap.2 ⟨_, hq, ?_⟩⟩
  · exact List.mem_append_left _ (List.mem_map.2 ⟨s, h, rfl⟩)
  · exact List.mem_append_right _ (List.mem_map.2 ⟨s, h, rfl⟩)
theorem spans_there {a : List FactP} {x : Tri} {t : Int} (h : Inn (spansOf a x) t) : ∃ f ∈ a, triF f = x := by
  obtain ⟨s, hs, _⟩ := h
  unfold spansOf at hs
  cases hq : a.find? (fun g => decide (triF g = x)) with
  | none => rw [hq] at hs; cases hs
  | some g =>
    have h2 := List.find?_some hq
    exact ⟨g, List.mem_of_find?_eq_some hq, of_decide_eq_true h2⟩
/-- at an instant, what comes and what goes -/
theorem chg_adds {a b : List FactP} {t : Int} (ha : RiseF a) (hb : RiseF b) (x : Tri) (τ : Int) : (∃ d ∈ chgL a b t, triD d = x ∧ d.add = true ∧ Names d τ) ↔ Inn (spansOf b x) τ ∧ ¬ Inn (spansOf a x) τ := by
  rw [← (minusL_spec (spansOf b x) (spansOf a x)).2 τ]
  constructor
  · rintro ⟨d, hd, rfl, had, hn⟩
    obtain ⟨_, _, ⟨_, h⟩ | ⟨h, _⟩⟩ := chg_mem ha hb hd
    · exact ⟨spD d, h, hn⟩
    · rw [had] at h; cases h
  · rintro hi
    have hx := ((minusL_spec (spansOf b x) (spansOf a x)).2 τ).1 hi
    obtain ⟨s, hs, h1, h2⟩ := hi
    exact ⟨mkD x t true s, (mem_chg ha hb (.inr (spans_there hx.1))).1 hs, rfl, rfl, h1, h2⟩
theorem chg_cuts {a b : List FactP} {t : Int} (ha : RiseF a) (hb : RiseF b) (x : Tri) (τ : Int) : (∃ d ∈ chgL a b t, triD d = x ∧ d.add = false ∧ Names d τ) ↔ Inn (spansOf a x) τ ∧ ¬ Inn (spansOf b x) τ := by
  rw [← (minusL_spec (spansOf a x) (spansOf b x)).2 τ]
  constructor
  · rintro ⟨d, hd, rfl, had, hn⟩
    obtain ⟨_, _, ⟨h, _⟩ | ⟨_, h⟩⟩ := chg_mem ha hb hd
    · rw [had] at h; cases h
    · exact ⟨spD d, h, hn⟩
  · rintro hi
    have hx := ((minusL_spec (spansOf a x) (spansOf b x)).2 τ).1 hi
    obtain ⟨s, hs, h1, h2⟩ := hi
    exact ⟨mkD x t false s, (mem_chg ha hb (.inl (spans_there hx.1))).2 hs, rfl, rfl, h1, h2⟩
theorem tri_may {f : FactP} (h : mayF f = true) {d : Dat} (e : triF f = triD d) (h1 : 1 ≤ d.t) (h2 : d.t ≤ 1099511627776) (h3 : d.fr < d.til) : mayD d = true := by
  unfold mayF mayD datF at h
  unfold mayD
  simp only [Bool.and_eq_true] at h ⊢
  unfold triF triD at e
  simp only [Prod.mk.injEq] at e
  obtain ⟨e1, e2, e3, e4, e5⟩ := e
  rw [e1, e2, e3, e4, e5] at h
  exact ⟨⟨h.1.1.1.1, decide_eq_true ⟨h1, h2⟩⟩, decide_eq_true h3⟩
theorem chg_may {a b : List FactP} {t : Int} (ha : mayFs a = true) (hb : mayFs b = true) (h1 : 1 ≤ t) (h2 : t ≤ 1099511627776) {d : Dat} (h : d ∈ chgL a b t) : mayD d = true := by
  obtain ⟨ma, ra⟩ := of_decide_eq_true ha
  obtain ⟨mb, rb⟩ := of_decide_eq_true hb
  obtain ⟨rfl, hf, hs⟩ := chg_mem ra rb h
  have hlt : d.fr < d.til := by
    rcases hs with ⟨_, hs⟩ | ⟨_, hs⟩
    · exact (minusL_spec _ _).1.2 _ hs
    · exact (minusL_spec _ _).1.2 _ hs
  rcases hf with ⟨f, hf, e⟩ | ⟨f, hf, e⟩
  · exact tri_may (ma f hf) e h1 h2 hlt
  · exact tri_may (mb f hf) e h1 h2 hlt
theorem spans_last' {l : List Dat} {fs : List FactP} (hg : Goes (sortsD 1 l)) (h : FoldsTo (runsL triD (sortsD 1 l)) fs) (hm : notMay l = false) (x : Tri) (t : Int) :
    Inn (spansOf fs x) t ↔ ∃ z ∈ l, triD z = x ∧ z.add = true ∧ Names z t ∧ ∀ y ∈ l, triD y = x → Names y t → y.add = false → y.t < z.t := by
  by_cases hx : ∃ d ∈ l, triD d = x
  · obtain ⟨d, hd, rfl⟩ := hx
    exact spans_last hg h hm hd t
  · constructor
    · intro hi
      obtain ⟨f, hf, e⟩ := spans_there hi
      obtain ⟨ls, h1, h2, rfl⟩ := h
      obtain ⟨i, d, r, q, g1, _, _, rfl⟩ := mem_factsOf _ _ f hf
      exact absurd ⟨d, ((sorts_ups l).2 d).1 (run_in_mem triD (List.mem_of_getElem? g1) (by simp)), e⟩ hx
    · rintro ⟨z, hz, e, _⟩
      exact absurd ⟨z, hz, e⟩ hx
theorem facts_ext {a b : List FactP} (ha : mayFs a = true) (hb : mayFs b = true) (h : ∀ x t, Inn (spansOf a x) t ↔ Inn (spansOf b x) t) : a = b := by
  obtain ⟨ma, ra⟩ := of_decide_eq_true ha
  obtain ⟨mb, rb⟩ := of_decide_eq_true hb
  have good : ∀ f : FactP, mayF f = true → SetL f.l ∧ f.l ≠ [] := fun f hf => by
    unfold mayF at hf
    simp only [Bool.and_eq_true] at hf
    exact ⟨of_decide_eq_true hf.2, List.length_pos_iff.1 (of_decide_eq_true hf.1.2)⟩
  have has : ∀ (l : List FactP), (∀ f ∈ l, mayF f = true) → RiseF l → ∀ x, x ∈ l.map triF ↔ ∃ t, Inn (spansOf l x) t := fun l hl hr x => by
    constructor
    · intro hx
      obtain ⟨f, hf, rfl⟩ := List.mem_map.1 hx
      obtain ⟨g1, g2⟩ := good f (hl f hf)
      rw [spansOf_mem hr hf]
      cases hfl : f.l with
      | nil => exact absurd hfl g2
      | cons s r => exact ⟨s.1, (set_start (s := s) (by rw [← hfl]; exact g1) (by simp)).1⟩
    · rintro ⟨t, hi⟩
      obtain ⟨f, hf, e⟩ := spans_there hi
      exact List.mem_map.2 ⟨f, hf, e⟩
  have hmap : a.map triF = b.map triF := by
    refine ups_uniq ordTr_is _ _ ?_ ?_ fun x => ?_
    · unfold Ups; exact List.pairwise_map.2 ra
    · unfold Ups; exact List.pairwise_map.2 rb
    · rw [has a ma ra, has b mb rb]
      exact exists_congr fun t => h x t
  have hlen : a.length = b.length := by have := congrArg List.length hmap; simpa using this
  refine List.ext_getElem hlen fun i h1 h2 => ?_
  have e : triF a[i] = triF b[i] := by
    have := List.getElem_of_eq hmap (i := i) (by simpa using h1)
    simpa using this
  have k1 := spansOf_mem ra (List.getElem_mem h1)
  have k2 := spansOf_mem rb (List.getElem_mem h2)
  have el : a[i].l = b[i].l := by
    refine set_ext (good _ (ma _ (List.getElem_mem h1))).1 (good _ (mb _ (List.getElem_mem h2))).1 fun t => ?_
    rw [← k1, ← k2, e]
    exact h _ t
  unfold triF at e
  simp only [Prod.mk.injEq] at e
  generalize a[i] = f at e el
  generalize b[i] = g at e el
  obtain ⟨f1, f2, f3, f4, f5, f6⟩ := f
  obtain ⟨g1, g2, g3, g4, g5, g6⟩ := g
  simp only at e el
  obtain ⟨rfl, rfl, rfl, rfl, rfl⟩ := e
  subst el
  rfl
/-- THE STAGE'S THEOREM, in plain words -/
theorem change_folds {l : List Dat} {old now : List FactP} {t : Int} (hm : notMay l = false) (hg : Goes (sortsD 1 l)) (hf : FoldsTo (runsL triD (sortsD 1 l)) old) (hn : mayFs now = true) (h1 : 1 ≤ t) (h2 : t ≤ 1099511627776) (ht : ∀ d ∈ l, d.t < t) :
    notMay (l ++ chgL old now t) = false ∧ Goes (sortsD 1 (l ++ chgL old now t)) ∧ ∀ fs, FoldsTo (runsL triD (sortsD 1 (l ++ chgL old now t))) fs → fs = now := by
  have ho := foldsTo_may hm hf
  have ra := (of_decide_eq_true ho).2
  have rb := (of_decide_eq_true hn).2
  have m1 : notMay (l ++ chgL old now t) = false := by
    unfold notMay at hm ⊢
    rw [List.any_append, hm, Bool.false_or, List.any_eq_false]
    exact fun d hd => by simp [chg_may ho hn h1 h2 hd]
  have both : ∀ z, z ∈ l ++ chgL old now t → z.t ≤ t ∧ (z.t = t → z ∈ chgL old now t) ∧ (z.t ≠ t → z ∈ l) := fun z hz => by
    rcases List.mem_append.1 hz with hz | hz
    · have := ht z hz
      exact ⟨by omega, fun e => by omega, fun _ => hz⟩
    · have := (chg_mem ra rb hz).1
      exact ⟨by omega, fun _ => hz, fun e => absurd this e⟩
  have m2 : Goes (sortsD 1 (l ++ chgL old now t)) := fun run hr once hoo => by
    rintro ⟨τ, hi1, hi2⟩
    obtain ⟨x, hx, hxa, hxn⟩ := inn_adds.1 hi1
    obtain ⟨y, hy, hya, hyn⟩ := inn_cuts.1 hi2
    have hxr := run_in_mem (fun d : Dat => d.t) hoo hx
    have hyr := run_in_mem (fun d : Dat => d.t) hoo hy
    have et : x.t = y.t := run_all (fun d : Dat => d.t) hoo hx hy
    have e : triD x = triD y := run_all triD hr hxr hyr
    have hxb := both x (((sorts_ups _).2 x).1 (run_in_mem triD hr hxr))
    have hyb := both y (((sorts_ups _).2 y).1 (run_in_mem triD hr hyr))
    by_cases he : x.t = t
    · have k1 := (chg_adds ra rb (triD x) τ).1 ⟨x, hxb.2.1 he, rfl, hxa, hxn⟩
      have k2 := (chg_cuts ra rb (triD x) τ).1 ⟨y, hyb.2.1 (by omega), e.symm, hya, hyn⟩
      exact k1.2 k2.1
    · have := goes_apart hg (hxb.2.2 he) (hyb.2.2 (by omega)) e et hxn hyn
      rw [hxa, hya] at this
      cases this
  refine ⟨m1, m2, fun fs hfs => facts_ext (foldsTo_may m1 hfs) hn fun x τ => ?_⟩
  rw [spans_last' m2 hfs m1 x τ]
  have hO := spans_last' hg hf hm x τ
  have hA := chg_adds (t := t) ra rb x τ
  have hC := chg_cuts (t := t) ra rb x τ
  constructor
  · rintro ⟨z, hz, e, hza, hzn, hzy⟩
    rcases List.mem_append.1 hz with hzl | hzc
    · have hold : Inn (spansOf old x) τ := hO.2 ⟨z, hzl, e, hza, hzn, fun y hy => hzy y (List.mem_append_left _ hy)⟩
      refine Classical.byContradiction fun hnn => ?_
      obtain ⟨y, hy, ye, ya, yn⟩ := hC.2 ⟨hold, hnn⟩
      have k1 := hzy y (List.mem_append_right _ hy) ye yn ya
      have k2 := (chg_mem ra rb hy).1
      have k3 := ht z hzl
      omega
    · exact (hA.1 ⟨z, hzc, e, hza, hzn⟩).1
  · intro hN
    by_cases hold : Inn (spansOf old x) τ
    · obtain ⟨z, hzl, e, hza, hzn, hzy⟩ := hO.1 hold
      refine ⟨z, List.mem_append_left _ hzl, e, hza, hzn, fun y hy ye yn ya => ?_⟩
      rcases List.mem_append.1 hy with hy | hy
      · exact hzy y hy ye yn ya
      · exact absurd hN (hC.1 ⟨y, hy, ye, ya, yn⟩).2
    · obtain ⟨z, hzc, e, hza, hzn⟩ := hA.2 ⟨hN, hold⟩
      refine ⟨z, List.mem_append_right _ hzc, e, hza, hzn, fun y hy ye yn ya => ?_⟩
      rcases List.mem_append.1 hy with hy | hy
      · have := ht y hy
        have := (chg_mem ra rb hzc).1
        omega
      · exact absurd (hC.1 ⟨y, hy, ye, ya, yn⟩).1 hold
/-- from facts to themselves there are no changes -/
theorem chg_same {a : List FactP} (ha : RiseF a) (t : Int) : chgL a a t = [] := by
  refine List.eq_nil_iff_forall_not_mem.2 fun d hd => ?_
  obtain ⟨_, _, h⟩ := chg_mem ha ha hd
  rcases h with ⟨_, h⟩ | ⟨_, h⟩
  · have := ((minusL_spec (spansOf a (triD d)) (spansOf a (triD d))).2 _).1 (set_start (minusL_spec _ _).1 h).1
    exact this.2 this.1
  · have := ((minusL_spec (spansOf a (triD d)) (spansOf a (triD d))).2 _).1 (set_start (minusL_spec _ _).1 h).1
    exact this.2 this.1
end Go.Proofs.Ytdhnajhfkmmjnaa

/-
  PLAIN FACTS: the changes stand in order; the document's changes, sorted, are these; who is found.
-/
namespace Go.Proofs.Ytdhnajhfkmmjnaa
open VOrd (IsOrd lexO lex_is ordI_is ordT_is ordT)

theorem ord1_of_tri {x y : Dat} (h : ordTr (triD x) (triD y) < 0) : ordD 1 x y < 0 := by
  rw [ord1_lex]
  have h' : (if ordI x.e y.e = 0 then (if ordI x.a y.a = 0 then ordT (valD x) (valD y) else ordI x.a y.a) else ordI x.e y.e) < 0 := h
  show (if ordI x.e y.e = 0 then (if ordI x.a y.a = 0 then (if ordT (valD x) (valD y) = 0 then tailO (tailD x) (tailD y) else ordT (valD x) (valD y)) else ordI x.a y.a) else ordI x.e y.e) < 0
  split at h'
  · rename_i h1
    rw [if_pos h1]
    split at h'
    · rename_i h2
      rw [if_pos h2, if_neg (by omega)]
      exact h'
    · rename_i h2
      rw [if_neg h2]
      exact h'
  · rename_i h1
    rw [if_neg h1]
    exact h'
theorem ord1_of_tail {x y : Dat} (h : triD x = triD y) (h2 : tailO (tailD x) (tailD y) < 0) : ordD 1 x y < 0 := by
  rw [ord1_lex]
  unfold triD at h
  simp only [Prod.mk.injEq] at h
  obtain ⟨e1, e2, e3, e4, e5⟩ := h
  have e6 : valD x = valD y := by unfold valD; rw [e3, e4, e5]
  show (if ordI x.e y.e = 0 then (if ordI x.a y.a = 0 then (if ordT (valD x) (valD y) = 0 then tailO (tailD x) (tailD y) else ordT (valD x) (valD y)) else ordI x.a y.a) else ordI x.e y.e) < 0
  rw [if_pos ((ordI_is.zero _ _).2 e1), if_pos ((ordI_is.zero _ _).2 e2), if_pos ((ordT_is.zero _ _).2 e6)]
  exact h2
theorem ordI_lt {a b : Int} (h : a < b) : ordI a b < 0 := by unfold ordI; rw [if_pos h]; decide
theorem tail_same (t c : Int) {s s' : Sp} (h : s.1 < s'.1) : tailO (t, (c, (s.1, s.2))) (t, (c, (s'.1, s'.2))) < 0 := by
  have h0 := ordI_lt h
  show (if ordI t t = 0 then (if ordI c c = 0 then (if ordI s.1 s'.1 = 0 then ordI s.2 s'.2 else ordI s.1 s'.1) else ordI c c) else ordI t t) < 0
  rw [if_pos ((ordI_is.zero _ _).2 rfl), if_pos ((ordI_is.zero _ _).2 rfl), if_neg (by omega)]
  exact h0
theorem tail_cut (t : Int) (s s' : Sp) : tailO (t, (cutN true, (s.1, s.2))) (t, (cutN false, (s'.1, s'.2))) < 0 := by
  have h0 : ordI (cutN true) (cutN false) < 0 := by decide
  show (if ordI t t = 0 then (if ordI (cutN true) (cutN false) = 0 then (if ordI s.1 s'.1 = 0 then ordI s.2 s'.2 else ordI s.1 s'.1) else ordI (cutN true) (cutN false)) else ordI t t) < 0
  rw [if_pos ((ordI_is.zero _ _).2 rfl), if_neg (by omega)]
  exact h0
theorem mk_ups (x : Tri) (t : Int) (add : Bool) {l : List Sp} (h : SetL l) : Ups (ordD 1) (l.map (mkD x t add)) := by
  unfold Ups
  rw [List.pairwise_map]
  refine List.Pairwise.imp_of_mem (fun {s s'} hs _ hlt => ?_) h.1
  have h1 := h.2 s hs
  exact ord1_of_tail rfl (tail_same t _ (by omega))
theorem chgT_ups (t : Int) (q : Tri × List Sp × List Sp) : Ups (ordD 1) (chgT t q) := by
  unfold chgT Ups
  rw [List.pairwise_append]
  refine ⟨mk_ups _ _ _ (minusL_spec _ _).1, mk_ups _ _ _ (minusL_spec _ _).1, fun x hx y hy => ?_⟩
  obtain ⟨s, _, rfl⟩ := List.mem_map.1 hx
  obtain ⟨s', _, rfl⟩ := List.mem_map.1 hy
  exact ord1_of_tail rfl (tail_cut t s s')
theorem tog_rise : ∀ (n : Nat) (a b : List FactP), RiseF a → RiseF b → a.length + b.length ≤ n → (togL n a b).Pairwise fun x y => ordTr x.1 y.1 < 0
  | 0, _, _, _, _, _ => List.Pairwise.nil
  | n + 1, a, b, ha, hb, h => by
    by_cases he : a = [] ∧ b = []
    · obtain ⟨rfl, rfl⟩ := he
      rw [togL_nil]
      exact List.Pairwise.nil
    · have hl := tog_less he
      obtain ⟨p1, p2⟩ := least_le ha hb
      obtain ⟨p, hp⟩ : ∃ p, leastT a b = p := ⟨_, rfl⟩
      rw [hp] at hl p1 p2
      obtain ⟨_, s2, s3, _, _⟩ := take_spans ha p1
      obtain ⟨_, t2, t3, _, _⟩ := take_spans hb p2
      have e : togL (n + 1) a b = (p, takeS a p, takeS b p) :: togL n (takeR a p) (takeR b p) := by
        show (if a = [] ∧ b = [] then [] else _) = _
        rw [if_neg he, hp]
      rw [e, List.pairwise_cons]
      refine ⟨fun q hq => ?_, tog_rise n _ _ s2 t2 (by omega)⟩
      obtain ⟨_, _, j3⟩ := (tog_is n (takeR a p) (takeR b p) s2 t2 (by omega)).1 q hq
      have hne : ordTr p q.1 ≤ 0 ∧ p ≠ q.1 := by
        rcases j3 with ⟨f, hf, e⟩ | ⟨f, hf, e⟩
        · rw [← e]; exact ⟨p1 f ((takeR_sub _ _).subset hf), fun h => s3 f hf h.symm⟩
        · rw [← e]; exact ⟨p2 f ((takeR_sub _ _).subset hf), fun h => t3 f hf h.symm⟩
      have h0 : ordTr p q.1 ≠ 0 := fun h => hne.2 ((ordTr_is.zero _ _).1 h)
      show ordTr p q.1 < 0
      omega
theorem chg_ups {a b : List FactP} (ha : RiseF a) (hb : RiseF b) (t : Int) : Ups (ordD 1) (chgL a b t) := by
  unfold chgL Ups
  rw [List.pairwise_flatMap]
  refine ⟨fun q _ => chgT_ups t q, (tog_rise _ a b ha hb (Nat.le_refl _)).imp fun {q q'} h x hx y hy => ord1_of_tri ?_⟩
  have hx' : triD x = q.1 := by
    unfold chgT at hx
    rcases List.mem_append.1 hx with hx | hx
    · obtain ⟨s, _, rfl⟩ := List.mem_map.1 hx; rfl
    · obtain ⟨s, _, rfl⟩ := List.mem_map.1 hx; rfl
  have hy' : triD y = q'.1 := by
    unfold chgT at hy
    rcases List.mem_append.1 hy with hy | hy
    · obtain ⟨s, _, rfl⟩ := List.mem_map.1 hy; rfl
    · obtain ⟨s, _, rfl⟩ := List.mem_map.1 hy; rfl
  rw [hx', hy']
  exact h
/-- what some facts have and others have not, as datoms -/
noncomputable def lessF (b : List FactP) (t : Int) (add : Bool) (f : FactP) : List Dat := (minusL f.l (spansOf b (triF f))).map (mkD (triF f) t add)
noncomputable def lessL (a b : List FactP) (t : Int) (add : Bool) : List Dat := a.flatMap (lessF b t add)
theorem mkD_self {d : Dat} {t : Int} {add : Bool} (h1 : d.t = t) (h2 : d.add = add) : mkD (triD d) t add (spD d) = d := by
  obtain ⟨e, a, k, m, s, t', add', fr, til⟩ := d
  simp only at h1 h2
  subst h1 h2
  rfl
theorem less_mem {a b : List FactP} (ha : RiseF a) {d : Dat} (h : spD d ∈ minusL (spansOf a (triD d)) (spansOf b (triD d))) : d ∈ lessL a b d.t d.add := by
  have hsp := minusL_spec (spansOf a (triD d)) (spansOf b (triD d))
  have h1 := hsp.1.2 _ h
  have h2 : Inn (spansOf a (triD d)) (spD d).1 := ((hsp.2 (spD d).1).1 ⟨_, h, Int.le_refl _, h1⟩).1
  obtain ⟨f, hf, e⟩ := spans_there h2
  refine List.mem_flatMap.2 ⟨f, hf, List.mem_map.2 ⟨spD d, ?_, ?_⟩⟩
  · rw [← spansOf_mem ha hf, e]; exact h
  · rw [e]; exact mkD_self rfl rfl
/-- the document's changes, sorted, are the program's -/
theorem less_chg {old now : List FactP} (ha : RiseF old) (hb : RiseF now) (t : Int) : sortsD 1 (lessL now old t true ++ lessL old now t false) = chgL old now t := by
  have e1 : isO 1 = true := rfl
  refine ups_uniq (ordD_is e1) _ _ (sorts_ups _).1 (chg_ups ha hb t) fun d => ?_
  rw [(sorts_ups _).2 d, List.mem_append]
  constructor
  · rintro (h | h)
    · obtain ⟨f, hf, hd⟩ := List.mem_flatMap.1 h
      obtain ⟨s, hs, rfl⟩ := List.mem_map.1 hd
      exact (mem_chg ha hb (.inr ⟨f, hf, rfl⟩)).1 (by rw [spansOf_mem hb hf]; exact hs)
    · obtain ⟨f, hf, hd⟩ := List.mem_flatMap.1 h
      obtain ⟨s, hs, rfl⟩ := List.mem_map.1 hd
      exact (mem_chg ha hb (.inl ⟨f, hf, rfl⟩)).2 (by rw [spansOf_mem ha hf]; exact hs)
  · intro h
    obtain ⟨h1, h2, h3⟩ := chg_mem ha hb h
    rcases h3 with ⟨h3, h4⟩ | ⟨h3, h4⟩
    · have := less_mem hb h4
      rw [h1, h3] at this
      exact .inl this
    · have := less_mem ha h4
      rw [h1, h3] at this
      exact .inr this
/-- the first one of a triple -/
theorem spansOf_at {fs : List FactP} {x : Tri} {j : Nat} (hj : j < fs.length) (h : ∀ i (hi : i < j), triF (fs[i]'(by omega)) ≠ x) (he : triF fs[j] = x) : spansOf fs x = fs[j].l := by
  have hf : fs.find? (fun f => decide (triF f = x)) = some fs[j] := by
    rw [List.find?_eq_some_iff_getElem]
    refine ⟨decide_eq_true he, j, hj, rfl, fun i hi => ?_⟩
    have := h i hi
    simpa using this
  unfold spansOf
  rw [hf]
end Go.Proofs.Ytdhnajhfkmmjnaa

/-
  CONTRACT of the document's own answer: Find.
-/
namespace Go.Proofs.Ytdhnajhfkmmjnaa
open Go.RowKit Go.Shelf

/-- spans at no address are none, in a row of facts -/
def FNn (W : World) (A : Option Addr) (n : Nat) : Prop := ∀ b o, A = some ⟨b, o, none⟩ → ∀ j n' c', j < n → W.cell? ⟨b, o + j * 6 + 5, none⟩ = some (.slice none n' c') → n' = 0 ∧ c' = 0
theorem FNn.next {w W : World} {A : Option Addr} {c : Nat} {fs : List FactP} (hn : FNn w A fs.length) (hs : FVa w (.slice A fs.length c) fs) (hb : Below w.heap.size w W) : FNn W A fs.length := fun b o e j n' c' hj hcell => by
  obtain ⟨b', o', sv, e', hlt, _, _⟩ := fva_at hs hj
  rw [e] at e'
  cases e'
  exact hn b o e j n' c' hj ((hb.cell (p := ⟨b, o + j * 6 + 5, none⟩) hlt).symm.trans hcell)
/-- a value that reads as spans, none at no address -/
def SVn (W : World) (v : Value) (l : List Sp) : Prop := SVa W v l ∧ ∀ n' c', v = .slice none n' c' → n' = 0 ∧ c' = 0
theorem SVn.next {W W' : World} {v : Value} {l : List Sp} (h : SVn W v l) (hb : Below W.heap.size W W') : SVn W' v l := ⟨h.1.next hb, h.2⟩
/-- What Find answers. -/
def FdEnd (w : World) (fs : List FactP) (x : Tri) (e : Ending) (w' : World) : Prop := (∃ v, e = .returned v ∧ SVn w' v (spansOf fs x)) ∧ Below w.heap.size w w'
set_option maxRecDepth 100000 in
set_option maxHeartbeats 2000000 in
/-- CONTRACT of the document's own answer: Find. -/
theorem refFind_any (A : Option Addr) (c : Nat) (fs : List FactP) (f : FactP) (sv : Value) (w : World) (hs : FVa w (.slice A fs.length c) fs) (hn : FNn w A fs.length) (hl : fs.length ≤ 100000) (hz : ∀ f ∈ fs, f.s.size ≤ maxLen ∧ f.l.length ≤ 100000) (hsv : ∃ A n c, sv = .slice A n c) (hfs : f.s.size ≤ maxLen) :
    Calls Try.prog 50 #[.slice A fs.length c, .agg #[.int .i64 f.e, .int .i64 f.a, .int .i64 f.k, .int .i64 f.m, .string f.s, sv]] w (FdEnd w fs (triF f)) := by
  obtain ⟨A1, n1, c1, rfl⟩ := hsv
  have HS := Lib.hid hs
  have HZ := Lib.hid hz
  have HN := Lib.hid hn
  clear hs hz hn
  obtain ⟨w0, hw0⟩ : ∃ w0, w.alloc (.cells #[.int .i64 f.e, .int .i64 f.a, .int .i64 f.k, .int .i64 f.m, .string f.s, .slice A1 n1 c1] 42) = w0 := ⟨_, rfl⟩
  have HX0 : Hid (FcBx w0 w.heap.size f (.slice A1 n1 c1)) := by rw [← hw0]; exact fcBx_new w f _
  have HB0 : Hid (Below w.heap.size w w0) := by rw [← hw0]; exact (Below.refl _ _).alloc (Nat.le_refl _) _
  go_enter Try.func50, Try.ntmps50
  go_upto_region 1 with (fail)
  try rw [hw0]
  clear hw0
  go_wp2
  go_loopg [5] fs.length (fun g y wr => ∃ j : Nat, y = .int .i64 j ∧ j + g = fs.length ∧ Hid (∀ i p, i < j → fs[i]? = some p → triF p ≠ triF f) ∧ Hid (Below w0.heap.size w0 wr))
  case atStart => exact ⟨0, rfl, by omega, fun i p hi => by omega, Below.refl _ _⟩
  case round =>
    obtain ⟨j, rfl, hj, HO, HB⟩ := hrel
    cases gk with
    | zero =>
      have hjz : ¬ ((j : Int) < (fs.length : Int)) := by omega
      have HE : Hid (spansOf fs (triF f) = []) := spansOf_none fun p hp => by
        obtain ⟨i, hi⟩ := List.mem_iff_getElem?.1 hp
        exact HO.out i p (by have := (List.getElem?_eq_some_iff.1 hi).1; omega) hi
      go_wp2
      go_ret
      exact ⟨⟨_, rfl, by rw [HE.out]; exact ⟨⟨none, 0, rfl, fun h => absurd rfl h, Nat.le_refl _, Nat.zero_le _⟩, fun n' c' e => by cases e; exact ⟨rfl, rfl⟩⟩⟩, HB0.out.trans (HB.out.mono HB0.out.size)⟩
    | succ g =>
      have hjz : (j : Int) < (fs.length : Int) := by omega
      have hjn : j < fs.length := by omega
      have HBW : Hid (Below w.heap.size w wr) := HB0.out.trans (HB.out.mono HB0.out.size)
      obtain ⟨b, o, pv, rfl, hlt, hc, hsv⟩ := fva_at HS.out hjn
      obtain ⟨p, hp⟩ : ∃ p, fs[j] = p := ⟨_, rfl⟩
      rw [hp] at hc hsv
      have HPG : Hid (fs[j]? = some p) := by show _ = _; rw [List.getElem?_eq_getElem hjn, hp]
      have HPE : Hid (triF fs[j] = triF p ∧ fs[j].l = p.l) := by rw [hp]; exact ⟨rfl, rfl⟩
      have hzp := HZ.out p (by rw [← hp]; exact List.getElem_mem _)
      obtain ⟨Ap, cp, rfl, _⟩ := id hsv
      have HNN : Hid (∀ n' c', Value.slice Ap p.l.length cp = .slice none n' c' → n' = 0 ∧ c' = 0) := fun n' c' e => HN.out b o rfl j n' c' hjn (by rw [← e]; exact hc.2.2.2.2.2)
      have hltr : b < wr.heap.size := Nat.lt_of_lt_of_le hlt HBW.out.size
      have hsr := hsv.next HBW.out
      have hcr := hc.next HBW.out hlt
      have HSV := Lib.hid hsr
      have HCV := Lib.hid hcr
      have HBL := Lib.hid hltr
      have HXW : Hid (FcBx wr w.heap.size f (.slice A1 n1 c1)) := HX0.out.next HB.out
      have HCM := Lib.hid (fun X => refCmpF_any p f (.slice Ap p.l.length cp) (.slice A1 n1 c1) X ⟨_, _, _, rfl⟩ ⟨_, _, _, rfl⟩ hzp.1 hfs)
      obtain ⟨N, hN⟩ : ∃ N, ordTr (triF p) (triF f) = N := ⟨_, rfl⟩
      rw [hN] at HCM
      have HNE := Lib.hid hN
      clear hp hc hsv hsr hcr hlt hltr hzp hN
      by_cases hle : N = 0
      · have hq : (N == 0) = true := by simpa using hle
        have HL := Lib.hid hle
        clear hle
        go_wp2
        obtain ⟨wd, hwd⟩ : ∃ wd, wr.drew = wd := ⟨_, rfl⟩
        refine wp_region_held_drew (S := Below wr.heap.size wr) (by kernel_rfl) (below_ind (Below.refl _ wr) 1) (fun hHeld => ?_)
        rw [hwd] at hHeld ⊢
        clear hwd
        refine takeV 0 (some 12) ((.slice (some ⟨b, o, none⟩) fs.length c)) rfl rfl (by kernel_rfl) (by kernel_rfl) (by kernel_rfl) (fun _ _ _ h => h) (by rfl) (by (intro _w _hSw; (try dsimp only at _hSw); go_simp)) (by assumption) ?_
        simp only [Act.put, List.setIfInBounds_toArray, List.set_cons_zero, List.set_cons_succ]
        refine takeV 1 (some 13) ((.int .i64 (j : Int))) rfl rfl (by kernel_rfl) (by kernel_rfl) (by kernel_rfl) (fun _ _ _ h => h) (by rfl) (by (intro _w _hSw; (try dsimp only at _hSw); go_simp)) (by assumption) ?_
        simp only [Act.put, List.setIfInBounds_toArray, List.set_cons_zero, List.set_cons_succ]
        refine takeV 2 (some 14) ((.pointer (some ⟨b, o + j * 6, none⟩))) rfl rfl (by kernel_rfl) (by kernel_rfl) (by kernel_rfl) (fun _ _ _ h => h) (by rfl) (by (intro _w _hSw; (try dsimp only at _hSw); go_simp)) (by assumption) ?_
        simp only [Act.put, List.setIfInBounds_toArray, List.set_cons_zero, List.set_cons_succ]
        refine takeV 3 (some 15) ((.agg #[.int .i64 p.e, .int .i64 p.a, .int .i64 p.k, .int .i64 p.m, .string p.s, .slice Ap p.l.length cp])) rfl rfl (by kernel_rfl) (by kernel_rfl) (by kernel_rfl) (fun _ _ _ h => h) (by rfl) (by (intro _w hSw; (have qh := HCV.out.next hSw HBL.out; have q0 := qh.1; have q1 := qh.2.1; have q2 := qh.2.2.1; have q3 := qh.2.2.2.1; have q4 := qh.2.2.2.2.1; have q5 := qh.2.2.2.2.2; clear qh); clear hSw; go_simp)) (by assumption) ?_
        simp only [Act.put, List.setIfInBounds_toArray, List.set_cons_zero, List.set_cons_succ]
        refine takeV 4 (some 16) ((.agg #[.int .i64 f.e, .int .i64 f.a, .int .i64 f.k, .int .i64 f.m, .string f.s, .slice A1 n1 c1])) rfl rfl (by kernel_rfl) (by kernel_rfl) (by kernel_rfl) (fun _ _ _ h => h) (by rfl) (by (intro _w hSw; (have qx := HXW.out.next hSw; have q0 := qx.k0; have q1 := qx.k1; have q2 := qx.k2; have q3 := qx.k3; have q4 := qx.k4; have q5 := qx.k5; clear qx); clear hSw; go_simp)) (by assumption) ?_
        simp only [Act.put, List.setIfInBounds_toArray, List.set_cons_zero, List.set_cons_succ]
        refine callV 5 rfl (by kernel_rfl) (by rfl) (fun K hK => ?_)
        go_simp
        refine (HCM.out _).mono ?_
        rintro e9 w3 ⟨rfl, hb3⟩
        have g3 := hHeld.trans (hb3.mono hHeld.size)
        refine hK.out _ _ g3 (fun hHeld => ?_)
        clear hK g3 K hb3
        try simp only [Act.put, List.setIfInBounds_toArray, List.set_cons_zero, List.set_cons_succ]
        refine takeV 6 (some 18) ((.bool true)) rfl rfl (by kernel_rfl) (by kernel_rfl) (by kernel_rfl) (fun _ _ _ h => h) (by rfl) (by (intro _w _hSw; (try dsimp only at _hSw); go_simp)) (by assumption) ?_
        simp only [Act.put, List.setIfInBounds_toArray, List.set_cons_zero, List.set_cons_succ]
        refine wpAnyH_done (by kernel_rfl) ?_ _
        have HBE := Lib.hid hHeld
        clear hHeld
        have q := HCV.out.next HBE.out HBL.out
        have q5 := q.2.2.2.2.2
        clear q
        have HSE := Lib.hid (HSV.out.next HBE.out)
        have HTE : Hid (spansOf fs (triF f) = p.l) := by
          show _ = _
          rw [← HPE.out.2]
          refine spansOf_at hjn (fun i hi => HO.out i _ hi (List.getElem?_eq_getElem _)) ?_
          rw [HPE.out.1]
          exact (ordTr_is.zero _ _).1 (HNE.out.trans HL.out)
        go_wp2
        go_ret
        exact ⟨⟨_, rfl, by rw [HTE.out]; exact ⟨HSE.out, HNN.out⟩⟩, HBW.out.trans (HBE.out.mono HBW.out.size)⟩
      · have hq : (N == 0) = false := by simpa using hle
        have HL := Lib.hid hle
        clear hle
        go_wp2
        obtain ⟨wd, hwd⟩ : ∃ wd, wr.drew = wd := ⟨_, rfl⟩
        refine wp_region_held_drew (S := Below wr.heap.size wr) (by kernel_rfl) (below_ind (Below.refl _ wr) 1) (fun hHeld => ?_)
        rw [hwd] at hHeld ⊢
        clear hwd
        refine takeV 0 (some 12) ((.slice (some ⟨b, o, none⟩) fs.length c)) rfl rfl (by kernel_rfl) (by kernel_rfl) (by kernel_rfl) (fun _ _ _ h => h) (by rfl) (by (intro _w _hSw; (try dsimp only at _hSw); go_simp)) (by assumption) ?_
        simp only [Act.put, List.setIfInBounds_toArray, List.set_cons_zero, List.set_cons_succ]
        refine takeV 1 (some 13) ((.int .i64 (j : Int))) rfl rfl (by kernel_rfl) (by kernel_rfl) (by kernel_rfl) (fun _ _ _ h => h) (by rfl) (by (intro _w _hSw; (try dsimp only at _hSw); go_simp)) (by assumption) ?_
        simp only [Act.put, List.setIfInBounds_toArray, List.set_cons_zero, List.set_cons_succ]
        refine takeV 2 (some 14) ((.pointer (some ⟨b, o + j * 6, none⟩))) rfl rfl (by kernel_rfl) (by kernel_rfl) (by kernel_rfl) (fun _ _ _ h => h) (by rfl) (by (intro _w _hSw; (try dsimp only at _hSw); go_simp)) (by assumption) ?_
        simp only [Act.put, List.setIfInBounds_toArray, List.set_cons_zero, List.set_cons_succ]
        refine takeV 3 (some 15) ((.agg #[.int .i64 p.e, .int .i64 p.a, .int .i64 p.k, .int .i64 p.m, .string p.s, .slice Ap p.l.length cp])) rfl rfl (by kernel_rfl) (by kernel_rfl) (by kernel_rfl) (fun _ _ _ h => h) (by rfl) (by (intro _w hSw; (have qh := HCV.out.next hSw HBL.out; have q0 := qh.1; have q1 := qh.2.1; have q2 := qh.2.2.1; have q3 := qh.2.2.2.1; have q4 := qh.2.2.2.2.1; have q5 := qh.2.2.2.2.2; clear qh); clear hSw; go_simp)) (by assumption) ?_
        simp only [Act.put, List.setIfInBounds_toArray, List.set_cons_zero, List.set_cons_succ]
        refine takeV 4 (some 16) ((.agg #[.int .i64 f.e, .int .i64 f.a, .int .i64 f.k, .int .i64 f.m, .string f.s, .slice A1 n1 c1])) rfl rfl (by kernel_rfl) (by kernel_rfl) (by kernel_rfl) (fun _ _ _ h => h) (by rfl) (by (intro _w hSw; (have qx := HXW.out.next hSw; have q0 := qx.k0; have q1 := qx.k1; have q2 := qx.k2; have q3 := qx.k3; have q4 := qx.k4; have q5 := qx.k5; clear qx); clear hSw; go_simp)) (by assumption) ?_
        simp only [Act.put, List.setIfInBounds_toArray, List.set_cons_zero, List.set_cons_succ]
        refine callV 5 rfl (by kernel_rfl) (by rfl) (fun K hK => ?_)
        go_simp
        refine (HCM.out _).mono ?_
        rintro e9 w3 ⟨rfl, hb3⟩
        have g3 := hHeld.trans (hb3.mono hHeld.size)
        refine hK.out _ _ g3 (fun hHeld => ?_)
        clear hK g3 K hb3
        try simp only [Act.put, List.setIfInBounds_toArray, List.set_cons_zero, List.set_cons_succ]
        refine takeV 6 (some 18) ((.bool false)) rfl rfl (by kernel_rfl) (by kernel_rfl) (by kernel_rfl) (fun _ _ _ h => h) (by rfl) (by (intro _w _hSw; (try dsimp only at _hSw); go_simp)) (by assumption) ?_
        simp only [Act.put, List.setIfInBounds_toArray, List.set_cons_zero, List.set_cons_succ]
        refine wpAnyH_done (by kernel_rfl) ?_ _
        have HBE := Lib.hid hHeld
        clear hHeld
        go_wp2
        go_roundg g
        case measure => omega
        case rel => exact ⟨j + 1, by go_num, by omega, fun i p' hi hp' => by
          by_cases e : i = j
          · subst e
            have := HPG.out.symm.trans hp'
            cases this
            intro h
            exact HL.out (HNE.out.symm.trans ((ordTr_is.zero _ _).2 h))
          · exact HO.out i p' (by omega) hp', HB.out.trans (HBE.out.mono HB.out.size)⟩

end Go.Proofs.Ytdhnajhfkmmjnaa
