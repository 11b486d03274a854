import Derived.Test.YtkoknogefmfmnaaJLeaf
import Derived.Deep.QuietTactic
import Derived.BigQuiet
import Derived.LoopTactic
import Derived.Lib.Hide
import Derived.Test.YtkoknogefmfmnaaJORefC
import Derived.Test.YtkoknogefmfmnaaJOWords
import Derived.Deep.RegionWith
import Derived.Deep.RegionHeld3
import Derived.IntWalk
import Derived.RangeFuncBox
import Derived.OwnWalk
import Derived.StillTailTactics
/-
  PLAIN FACTS on sets of instants: what a set is, what it has, that it is told in one way.
-/
namespace Go.Proofs.Ytkoknogefmfmnaa

/-- a span: from, to -/
abbrev Sp := Int × Int
def maxT : Int := 9223372036854775807
def minT : Int := -9223372036854775808
/-- spans that are a set -/
def SetL (l : List Sp) : Prop := l.Pairwise (fun p q => p.2 < q.1) ∧ ∀ s ∈ l, s.1 < s.2
instance (l : List Sp) : Decidable (SetL l) := by unfold SetL; infer_instance
/-- an instant of some spans -/
def Inn (l : List Sp) (t : Int) : Prop := ∃ s ∈ l, s.1 ≤ t ∧ t < s.2
instance (l : List Sp) (t : Int) : Decidable (Inn l t) := by unfold Inn; infer_instance
def setB (l : List Sp) : Bool := decide (SetL l)
def innB (l : List Sp) (t : Int) : Bool := decide (Inn l t)
/-- what int64 holds -/
def SpOk (s : Sp) : Prop := (minT ≤ s.1 ∧ s.1 ≤ maxT) ∧ minT ≤ s.2 ∧ s.2 ≤ maxT

theorem setL_nil : SetL [] := ⟨List.Pairwise.nil, fun _ h => by cases h⟩
theorem setL_cons {s : Sp} {l : List Sp} : SetL (s :: l) ↔ s.1 < s.2 ∧ (∀ q ∈ l, s.2 < q.1) ∧ SetL l := by
  unfold SetL
  rw [List.pairwise_cons]
  constructor
  · intro ⟨⟨h1, h2⟩, h3⟩
    exact ⟨h3 s (by simp), h1, h2, fun q hq => h3 q (by simp [hq])⟩
  · intro ⟨h1, h2, h3, h4⟩
    exact ⟨⟨h2, h3⟩, fun q hq => by
      rcases List.mem_cons.1 hq with rfl | hq
      · exact h1
      · exact h4 q hq⟩
theorem setL_snoc {s : Sp} {l : List Sp} : SetL (l ++ [s]) ↔ s.1 < s.2 ∧ (∀ q ∈ l, q.2 < s.1) ∧ SetL l := by
  unfold SetL
  rw [List.pairwise_append]
  constructor
  · intro ⟨⟨h1, _, h2⟩, h3⟩
    exact ⟨h3 s (by simp), fun q hq => h2 q hq s (by simp), h1, fun q hq => h3 q (by simp [hq])⟩
  · intro ⟨h1, h2, h3, h4⟩
    exact ⟨⟨h3, List.pairwise_singleton _ _, fun q hq r hr => by rw [List.mem_singleton.1 hr]; exact h2 q hq⟩, fun q hq => by
      rcases List.mem_append.1 hq with hq | hq
      · exact h4 q hq
      · rw [List.mem_singleton.1 hq]; exact h1⟩
theorem inn_nil (t : Int) : ¬ Inn [] t := fun ⟨_, h, _⟩ => by cases h
theorem inn_cons {s : Sp} {l : List Sp} {t : Int} : Inn (s :: l) t ↔ (s.1 ≤ t ∧ t < s.2) ∨ Inn l t := by
  unfold Inn
  simp [List.mem_cons, or_and_right, exists_or]
theorem inn_append {a b : List Sp} {t : Int} : Inn (a ++ b) t ↔ Inn a t ∨ Inn b t := by
  unfold Inn
  simp only [List.mem_append, or_and_right, exists_or]
theorem inn_one {s : Sp} {t : Int} : Inn [s] t ↔ s.1 ≤ t ∧ t < s.2 := by rw [inn_cons]; simp [inn_nil]
/-- behind a set's first span nothing is until a gap has passed -/
theorem inn_gap {s : Sp} {l : List Sp} (h : SetL (s :: l)) {t : Int} (ht : t ≤ s.2) : ¬ Inn l t := fun ⟨q, hq, h1, _⟩ => by
  have := (setL_cons.1 h).2.1 q hq
  omega
theorem inn_first {s : Sp} {l : List Sp} (h : SetL (s :: l)) {t : Int} (ht : t < s.1) : ¬ Inn (s :: l) t := fun hi => by
  have h0 := (setL_cons.1 h).1
  rcases inn_cons.1 hi with h1 | h1
  · omega
  · exact inn_gap h (t := t) (by omega) h1

/-- A set is told in one way. -/
theorem set_ext : ∀ {a b : List Sp}, SetL a → SetL b → (∀ t, Inn a t ↔ Inn b t) → a = b
  | [], [], _, _, _ => rfl
  | [], s :: b, _, hb, h => absurd ((h s.1).2 (inn_cons.2 (.inl ⟨Int.le_refl _, (setL_cons.1 hb).1⟩))) (inn_nil _)
  | s :: a, [], ha, _, h => absurd ((h s.1).1 (inn_cons.2 (.inl ⟨Int.le_refl _, (setL_cons.1 ha).1⟩))) (inn_nil _)
  | s :: a, r :: b, ha, hb, h => by
    have h1 := (setL_cons.1 ha).1
    have h2 := (setL_cons.1 hb).1
    have e1 : s.1 = r.1 := by
      have g1 := (h s.1).1 (inn_cons.2 (.inl ⟨Int.le_refl _, h1⟩))
      have g2 := (h r.1).2 (inn_cons.2 (.inl ⟨Int.le_refl _, h2⟩))
      have k1 : ¬ s.1 < r.1 := fun hh => inn_first hb hh g1
      have k2 : ¬ r.1 < s.1 := fun hh => inn_first ha hh g2
      omega
    have e2 : s.2 = r.2 := by
      have k1 : ¬ s.2 < r.2 := fun hh => by
        have g := (h s.2).2 (inn_cons.2 (.inl ⟨by omega, hh⟩))
        rcases inn_cons.1 g with g | g
        · omega
        · exact inn_gap ha (Int.le_refl _) g
      have k2 : ¬ r.2 < s.2 := fun hh => by
        have g := (h r.2).1 (inn_cons.2 (.inl ⟨by omega, hh⟩))
        rcases inn_cons.1 g with g | g
        · omega
        · exact inn_gap hb (Int.le_refl _) g
      omega
    have e : s = r := Prod.ext e1 e2
    subst e
    rw [set_ext (setL_cons.1 ha).2.2 (setL_cons.1 hb).2.2 (fun t => ?_)]
    by_cases ht : t ≤ s.2
    · exact ⟨fun g => absurd g (inn_gap ha ht), fun g => absurd g (inn_gap hb ht)⟩
    · have g := h t
      rw [inn_cons, inn_cons] at g
      constructor
      · intro g1
        rcases g.1 (.inr g1) with g2 | g2
        · omega
        · exact g2
      · intro g1
        rcases g.2 (.inr g1) with g2 | g2
        · omega
        · exact g2

/-- what isSet asks at a place -/
def OkAt (l : List Sp) (i : Nat) : Prop := ∀ s, l[i]? = some s → s.1 < s.2 ∧ ∀ p, 0 < i → l[i - 1]? = some p → p.2 < s.1
theorem setL_of_at : ∀ {l : List Sp}, (∀ i, i < l.length → OkAt l i) → SetL l
  | [], _ => setL_nil
  | [s], h => by
    have := h 0 (by simp) s rfl
    exact setL_cons.2 ⟨this.1, fun _ hq => (by cases hq), setL_nil⟩
  | s :: r :: l, h => by
    have h0 := h 0 (by simp) s rfl
    have h1 := h 1 (by simp) r rfl
    have hr : SetL (r :: l) := setL_of_at fun i hi => by
      intro x hx
      have g := h (i + 1) (by simp at hi ⊢; omega) x (by simpa using hx)
      refine ⟨g.1, fun p hp hpx => g.2 p (by omega) ?_⟩
      obtain ⟨j, rfl⟩ : ∃ j, i = j + 1 := ⟨i - 1, by omega⟩
      simpa using hpx
    refine setL_cons.2 ⟨h0.1, fun q hq => ?_, hr⟩
    have k := h1.2 s (by omega) rfl
    rcases List.mem_cons.1 hq with rfl | hq
    · exact k
    · have k1 := (setL_cons.1 hr).2.1 q hq
      have k2 := (setL_cons.1 hr).1
      omega
theorem setL_at {l : List Sp} (h : SetL l) (i : Nat) : OkAt l i := by
  refine fun s hs => ⟨h.2 s (List.mem_of_getElem? hs), fun p hi hp => ?_⟩
  obtain ⟨hi1, e1⟩ := List.getElem?_eq_some_iff.1 hs
  obtain ⟨hi2, e2⟩ := List.getElem?_eq_some_iff.1 hp
  have := List.pairwise_iff_getElem.1 h.1 (i - 1) i hi2 hi1 (by omega)
  rw [e1, e2] at this
  exact this
theorem setB_all {l : List Sp} (h : ∀ i, i < l.length → OkAt l i) : setB l = true := decide_eq_true (setL_of_at h)
theorem setB_no {l : List Sp} {i : Nat} (h : ¬ OkAt l i) : setB l = false := decide_eq_false fun k => h (setL_at k i)
theorem okAt_first {l : List Sp} {s : Sp} (hs : l[0]? = some s) : OkAt l 0 ↔ s.1 < s.2 := by
  unfold OkAt
  rw [hs]
  simp
theorem okAt_next {l : List Sp} {i : Nat} {s p : Sp} (hi : 0 < i) (hs : l[i]? = some s) (hp : l[i - 1]? = some p) : OkAt l i ↔ s.1 < s.2 ∧ p.2 < s.1 := by
  refine ⟨fun h => ⟨(h s hs).1, (h s hs).2 p hi hp⟩, fun h x hx => ?_⟩
  rw [hs] at hx
  cases hx
  refine ⟨h.1, fun q _ hq => ?_⟩
  rw [hp] at hq
  cases hq
  exact h.2

/-! ### what a closure adds -/
def addL (l : List Sp) (s : Sp) : List Sp := match l.getLast? with
  | none => [s]
  | some p => if s.1 ≤ p.2 then l.dropLast ++ [(p.1, max p.2 s.2)] else l ++ [s]
theorem addL_nil (s : Sp) : addL [] s = [s] := rfl
theorem addL_snoc (l : List Sp) (p s : Sp) : addL (l ++ [p]) s = if s.1 ≤ p.2 then l ++ [(p.1, max p.2 s.2)] else l ++ [p] ++ [s] := by
  unfold addL
  rw [List.getLast?_append]
  simp
theorem addL_len (l : List Sp) (s : Sp) : (addL l s).length ≤ l.length + 1 := by
  rcases List.eq_nil_or_concat l with rfl | ⟨r, p, rfl⟩
  · simp [addL_nil]
  · rw [List.concat_eq_append, addL_snoc]
    split <;> simp
/-- Adding a span that begins behind all others' beginnings. -/
theorem addL_set {l : List Sp} {s : Sp} (h : SetL l) (hs : s.1 < s.2) (hf : ∀ q ∈ l, q.1 ≤ s.1) : SetL (addL l s) ∧ (∀ t, Inn (addL l s) t ↔ Inn l t ∨ (s.1 ≤ t ∧ t < s.2)) ∧ ∀ q ∈ addL l s, q.1 ≤ s.1 := by
  rcases List.eq_nil_or_concat l with rfl | ⟨r, p, rfl⟩
  · rw [addL_nil]
    refine ⟨setL_cons.2 ⟨hs, fun _ h => (by cases h), setL_nil⟩, fun t => ?_, fun q hq => ?_⟩
    · rw [inn_one]; simp [inn_nil]
    · rw [List.mem_singleton.1 hq]; exact Int.le_refl _
  · rw [List.concat_eq_append] at h hf ⊢
    rw [addL_snoc]
    have hp := hf p (by simp)
    obtain ⟨h1, h2, h3⟩ := setL_snoc.1 h
    split
    · rename_i hle
      refine ⟨setL_snoc.2 ⟨by show p.1 < max p.2 s.2; omega, fun q hq => h2 q hq, h3⟩, fun t => ?_, fun q hq => ?_⟩
      · rw [inn_append, inn_append, inn_one, inn_one]
        show Inn r t ∨ (p.1 ≤ t ∧ t < max p.2 s.2) ↔ _
        constructor
        · rintro (g | g)
          · exact .inl (.inl g)
          · by_cases k : t < p.2
            · exact .inl (.inr ⟨g.1, k⟩)
            · exact .inr (by omega)
        · rintro ((g | g) | g)
          · exact .inl g
          · exact .inr (by omega)
          · exact .inr (by omega)
      · rcases List.mem_append.1 hq with hq | hq
        · exact hf q (by simp [hq])
        · rw [List.mem_singleton.1 hq]; exact hp
    · rename_i hle
      refine ⟨setL_snoc.2 ⟨hs, fun q hq => ?_, h⟩, fun t => ?_, fun q hq => ?_⟩
      · rcases List.mem_append.1 hq with hq | hq
        · have := h2 q hq; omega
        · rw [List.mem_singleton.1 hq]; omega
      · rw [inn_append, inn_one]
      · rcases List.mem_append.1 hq with hq | hq
        · exact hf q hq
        · rw [List.mem_singleton.1 hq]; exact Int.le_refl _
theorem addL_all {P : Sp → Prop} {l : List Sp} {s : Sp} (h : ∀ q ∈ l, P q) (hs : P s) (hm : ∀ p : Sp, P p → P (p.1, max p.2 s.2)) : ∀ q ∈ addL l s, P q := by
  rcases List.eq_nil_or_concat l with rfl | ⟨r, p, rfl⟩
  · intro q hq; rw [addL_nil] at hq; rw [List.mem_singleton.1 hq]; exact hs
  · rw [List.concat_eq_append] at h ⊢
    rw [addL_snoc]
    intro q hq
    split at hq
    · rcases List.mem_append.1 hq with hq | hq
      · exact h q (by simp [hq])
      · rw [List.mem_singleton.1 hq]; exact hm p (h p (by simp))
    · rcases List.mem_append.1 hq with hq | hq
      · exact h q hq
      · rw [List.mem_singleton.1 hq]; exact hs
end Go.Proofs.Ytkoknogefmfmnaa

/-
  PLAIN FACTS: two sets told together, and the set of the instants whose owner is wanted.
-/
namespace Go.Proofs.Ytkoknogefmfmnaa

/-- has a set's first span begun? -/
def begunB : List Sp → Int → Bool
  | [], _ => false
  | s :: _, t => decide (s.1 ≤ t)
/-- where a set's first span begins, or, if it has begun, ends -/
def turnI : List Sp → Int → Int
  | [], _ => maxT
  | s :: _, t => if s.1 ≤ t then s.2 else s.1
/-- what is left of a set -/
def behindL : List Sp → Int → List Sp
  | [], _ => []
  | s :: r, t => if s.2 ≤ t then r else s :: r
def whoN (x y : Bool) : Nat := (if x then 1 else 0) + (if y then 2 else 0)
def toI (a b : List Sp) (t : Int) : Int := min (turnI a t) (turnI b t)
/-- what the iterator hands on from an instant on -/
inductive Told : List Sp → List Sp → Int → List (Sp × Nat) → Prop
  | done (t : Int) : Told [] [] t []
  | next {a b : List Sp} {t : Int} {r : List (Sp × Nat)} (h : ¬ (a = [] ∧ b = [])) (k : Told (behindL a (toI a b t)) (behindL b (toI a b t)) (toI a b t) r) :
      Told a b t ((if whoN (begunB a t) (begunB b t) = 0 then [] else [((t, toI a b t), whoN (begunB a t) (begunB b t))]) ++ r)
/-- a set none of whose spans is at its end, and that int64 holds -/
def Live (l : List Sp) (t : Int) : Prop := SetL l ∧ ∀ s ∈ l, t < s.2 ∧ minT ≤ s.1 ∧ s.2 ≤ maxT
/-- how many turns are ahead -/
def cost (l : List Sp) (t : Int) : Nat := 2 * l.length - if begunB l t then 1 else 0

theorem live_tail {s : Sp} {l : List Sp} {t : Int} (h : Live (s :: l) t) : Live l t ∧ ∀ q ∈ l, s.2 < q.1 :=
  ⟨⟨(setL_cons.1 h.1).2.2, fun q hq => h.2 q (by simp [hq])⟩, (setL_cons.1 h.1).2.1⟩
theorem turn_gt {l : List Sp} {t : Int} (h : Live l t) (ht : t < maxT) : t < turnI l t ∧ turnI l t ≤ maxT := by
  cases l with
  | nil => exact ⟨ht, Int.le_refl _⟩
  | cons s r =>
    have h1 := h.2 s (by simp)
    have h2 := (setL_cons.1 h.1).1
    simp only [turnI]
    split <;> omega
theorem live_max {l : List Sp} {t : Int} (h : Live l t) (hl : l ≠ []) : t < maxT := by
  cases l with
  | nil => exact absurd rfl hl
  | cons s r => have := h.2 s (by simp); omega
theorem to_gt {a b : List Sp} {t : Int} (ha : Live a t) (hb : Live b t) (h : ¬ (a = [] ∧ b = [])) : t < toI a b t ∧ toI a b t ≤ maxT ∧ toI a b t ≤ turnI a t ∧ toI a b t ≤ turnI b t := by
  have hm : t < maxT := by
    by_cases h1 : a = []
    · exact live_max hb fun h2 => h ⟨h1, h2⟩
    · exact live_max ha h1
  have h1 := turn_gt ha hm
  have h2 := turn_gt hb hm
  unfold toI
  omega
theorem behind_live {l : List Sp} {t u : Int} (h : Live l t) (_h1 : t < u) (h2 : u ≤ turnI l t) : Live (behindL l u) u := by
  cases l with
  | nil => exact ⟨setL_nil, fun _ h => by cases h⟩
  | cons s r =>
    have hs := h.2 s (by simp)
    have hv := (setL_cons.1 h.1).1
    obtain ⟨hr, hg⟩ := live_tail h
    have hle : u ≤ s.2 := by simp only [turnI] at h2; split at h2 <;> omega
    simp only [behindL]
    split
    · refine ⟨hr.1, fun q hq => ?_⟩
      have h5 := hr.2 q hq
      have h6 := hg q hq
      have h7 := hr.1.2 q hq
      omega
    · refine ⟨h.1, fun q hq => ?_⟩
      have h5 := h.2 q hq
      rcases List.mem_cons.1 hq with rfl | hq
      · omega
      · have h6 := hg q hq
        have h7 := hr.1.2 q hq
        omega
theorem begun_in {l : List Sp} {t u x : Int} (h : Live l t) (h2 : u ≤ turnI l t) (hx : t ≤ x) (hu : x < u) : Inn l x ↔ begunB l t = true := by
  cases l with
  | nil => exact ⟨fun h => absurd h (inn_nil _), fun h => by cases h⟩
  | cons s r =>
    have hg := inn_gap h.1 (t := x)
    simp only [turnI] at h2
    simp only [begunB]
    rw [decide_eq_true_iff, inn_cons]
    by_cases h3 : s.1 ≤ t
    · rw [if_pos h3] at h2
      exact ⟨fun _ => h3, fun _ => .inl ⟨by omega, by omega⟩⟩
    · rw [if_neg h3] at h2
      have hv := (setL_cons.1 h.1).1
      refine ⟨fun k => ?_, fun k => absurd k h3⟩
      rcases k with k | k
      · omega
      · exact absurd k (hg (by omega))
theorem behind_in {l : List Sp} {u x : Int} (hx : u ≤ x) : Inn (behindL l u) x ↔ Inn l x := by
  cases l with
  | nil => exact Iff.rfl
  | cons s r =>
    simp only [behindL]
    split
    · rw [inn_cons]
      exact ⟨.inr, fun k => k.resolve_left (by omega)⟩
    · exact Iff.rfl
theorem cost_le {l : List Sp} {t u : Int} (h : Live l t) (_h1 : t < u) (h2 : u ≤ turnI l t) : cost (behindL l u) u ≤ cost l t ∧ (u = turnI l t → l ≠ [] → cost (behindL l u) u < cost l t) := by
  cases l with
  | nil => exact ⟨Nat.le_refl _, fun _ h => absurd rfl h⟩
  | cons s r =>
    have hs := h.2 s (by simp)
    have hv := (setL_cons.1 h.1).1
    obtain ⟨hr, hg⟩ := live_tail h
    have hle : u ≤ s.2 := by simp only [turnI] at h2; split at h2 <;> omega
    simp only [behindL]
    by_cases hb : s.2 ≤ u
    · rw [if_pos hb]
      unfold cost
      have : (if begunB (s :: r) t = true then 1 else 0) ≤ 1 := by split <;> omega
      simp only [List.length_cons]
      exact ⟨by omega, fun _ _ => by omega⟩
    · rw [if_neg hb]
      simp only [cost, begunB, List.length_cons, decide_eq_true_eq]
      simp only [turnI] at h2 ⊢
      by_cases h3 : s.1 ≤ t
      · rw [if_pos h3] at h2 ⊢
        rw [if_pos (show s.1 ≤ u by omega), if_pos h3]
        exact ⟨Nat.le_refl _, fun e => by omega⟩
      · rw [if_neg h3] at h2 ⊢
        rw [if_neg h3]
        refine ⟨by split <;> omega, fun e _ => ?_⟩
        rw [if_pos (by omega)]
        omega
theorem cost_step {a b : List Sp} {t : Int} (ha : Live a t) (hb : Live b t) (h : ¬ (a = [] ∧ b = [])) :
    cost (behindL a (toI a b t)) (toI a b t) + cost (behindL b (toI a b t)) (toI a b t) < cost a t + cost b t := by
  obtain ⟨h1, _, h3, h4⟩ := to_gt ha hb h
  have k1 := cost_le ha h1 h3
  have k2 := cost_le hb h1 h4
  have hm : toI a b t = turnI a t ∨ toI a b t = turnI b t := by unfold toI; omega
  by_cases ea : a = []
  · have eb : b ≠ [] := fun e => h ⟨ea, e⟩
    have : toI a b t = turnI b t := by
      rcases hm with e | e
      · have g : turnI a t = maxT := by rw [ea]; rfl
        have g2 := (turn_gt hb (live_max hb eb)).2
        omega
      · exact e
    have := k2.2 this eb
    omega
  · by_cases eb : b = []
    · have : toI a b t = turnI a t := by
        rcases hm with e | e
        · exact e
        · have g : turnI b t = maxT := by rw [eb]; rfl
          have g2 := (turn_gt ha (live_max ha ea)).2
          omega
      have := k1.2 this ea
      omega
    · rcases hm with e | e
      · have := k1.2 e ea; omega
      · have := k2.2 e eb; omega
theorem told_any : ∀ (n : Nat) (a b : List Sp) (t : Int), cost a t + cost b t ≤ n → Live a t → Live b t → ∃ r, Told a b t r
  | 0, a, b, t, hn, ha, hb => by
    by_cases h : a = [] ∧ b = []
    · obtain ⟨rfl, rfl⟩ := h; exact ⟨_, .done _⟩
    · have := cost_step ha hb h; omega
  | n + 1, a, b, t, hn, ha, hb => by
    by_cases h : a = [] ∧ b = []
    · obtain ⟨rfl, rfl⟩ := h; exact ⟨_, .done _⟩
    · obtain ⟨h1, _, h3, h4⟩ := to_gt ha hb h
      have := cost_step ha hb h
      obtain ⟨r, hr⟩ := told_any n _ _ _ (by omega) (behind_live ha h1 h3) (behind_live hb h1 h4)
      exact ⟨_, .next h hr⟩

/-- what is chosen of what is told -/
def pickL (f : Nat → Bool) (acc : List Sp) (r : List (Sp × Nat)) : List Sp := r.foldl (fun acc x => if f x.2 then addL acc x.1 else acc) acc
theorem pickL_nil (f : Nat → Bool) (acc : List Sp) : pickL f acc [] = acc := rfl
theorem pickL_cons (f : Nat → Bool) (acc : List Sp) (x : Sp × Nat) (r : List (Sp × Nat)) : pickL f acc (x :: r) = pickL f (if f x.2 then addL acc x.1 else acc) r := rfl
theorem pickL_snoc (f : Nat → Bool) (acc : List Sp) (x : Sp × Nat) (r : List (Sp × Nat)) : pickL f acc (r ++ [x]) = if f x.2 then addL (pickL f acc r) x.1 else pickL f acc r := by
  unfold pickL
  rw [List.foldl_append]; rfl
theorem pickL_len (f : Nat → Bool) (acc : List Sp) (r : List (Sp × Nat)) : (pickL f acc r).length ≤ acc.length + r.length := by
  induction r generalizing acc with
  | nil => exact Nat.le_refl _
  | cons x r ih =>
    rw [pickL_cons]
    have := ih (if f x.2 then addL acc x.1 else acc)
    have h2 := addL_len acc x.1
    rw [List.length_cons]
    by_cases hf : f x.2 = true
    · rw [if_pos hf] at this ⊢; omega
    · rw [if_neg hf] at this ⊢; omega
def wants (f : Nat → Bool) (x y : Bool) : Prop := whoN x y ≠ 0 ∧ f (whoN x y) = true
instance (f : Nat → Bool) (x y : Bool) : Decidable (wants f x y) := by unfold wants; infer_instance
theorem told_pick {a b : List Sp} {t : Int} {r : List (Sp × Nat)} (h : Told a b t r) : Live a t → Live b t → minT ≤ t → ∀ (f : Nat → Bool) (acc : List Sp), SetL acc → (∀ s ∈ acc, s.1 < t ∧ s.2 ≤ t ∧ SpOk s) →
    SetL (pickL f acc r) ∧ (∀ s ∈ pickL f acc r, SpOk s) ∧ (∀ x, Inn (pickL f acc r) x ↔ (x < t ∧ Inn acc x) ∨ (t ≤ x ∧ wants f (innB a x) (innB b x))) := by
  induction h with
  | done t =>
    intro _ _ _ f acc hs hc
    rw [pickL_nil]
    refine ⟨hs, fun s hs => (hc s hs).2.2, fun x => ⟨fun hi => ?_, fun hi => ?_⟩⟩
    · obtain ⟨s, hs1, hs2, hs3⟩ := hi
      have := hc s hs1
      exact .inl ⟨by omega, s, hs1, hs2, hs3⟩
    · rcases hi with hi | ⟨_, hi, _⟩
      · exact hi.2
      · exact absurd rfl hi
  | @next a b t r h _ ih =>
    intro ha hb htm f acc hs hc
    obtain ⟨h1, h2, h3, h4⟩ := to_gt ha hb h
    have la := behind_live ha h1 h3
    have lb := behind_live hb h1 h4
    have na : ∀ x, toI a b t ≤ x → innB (behindL a (toI a b t)) x = innB a x := fun x hx => by unfold innB; rw [decide_eq_decide]; exact behind_in hx
    have nb : ∀ x, toI a b t ≤ x → innB (behindL b (toI a b t)) x = innB b x := fun x hx => by unfold innB; rw [decide_eq_decide]; exact behind_in hx
    have ea : ∀ x, t ≤ x → x < toI a b t → innB a x = begunB a t := fun x hx hu => by
      rw [Bool.eq_iff_iff]; unfold innB; rw [decide_eq_true_iff]; exact begun_in ha h3 hx hu
    have eb : ∀ x, t ≤ x → x < toI a b t → innB b x = begunB b t := fun x hx hu => by
      rw [Bool.eq_iff_iff]; unfold innB; rw [decide_eq_true_iff]; exact begun_in hb h4 hx hu
    have sp : SpOk (t, toI a b t) := ⟨⟨htm, by show t ≤ maxT; omega⟩, by show minT ≤ toI a b t; omega, h2⟩
    have key : ∀ acc', SetL acc' → (∀ s ∈ acc', s.1 < toI a b t ∧ s.2 ≤ toI a b t ∧ SpOk s) → (∀ x, Inn acc' x ↔ (x < t ∧ Inn acc x) ∨ (t ≤ x ∧ x < toI a b t ∧ wants f (begunB a t) (begunB b t))) →
        SetL (pickL f acc' r) ∧ (∀ s ∈ pickL f acc' r, SpOk s) ∧ (∀ x, Inn (pickL f acc' r) x ↔ (x < t ∧ Inn acc x) ∨ (t ≤ x ∧ wants f (innB a x) (innB b x))) := fun acc' hs' hc' hi' => by
      obtain ⟨k1, k2, k3⟩ := ih la lb (by omega) f acc' hs' hc'
      refine ⟨k1, k2, fun x => ?_⟩
      rw [k3 x, hi' x]
      by_cases hx : x < toI a b t
      · by_cases hx2 : t ≤ x
        · rw [ea x hx2 hx, eb x hx2 hx]
          constructor
          · rintro (⟨_, k | k⟩ | k)
            · omega
            · exact .inr ⟨hx2, k.2.2⟩
            · omega
          · rintro (k | k)
            · omega
            · exact .inl ⟨hx, .inr ⟨hx2, hx, k.2⟩⟩
        · constructor
          · rintro (⟨_, k | k⟩ | k)
            · exact .inl k
            · omega
            · omega
          · rintro (k | k)
            · exact .inl ⟨hx, .inl k⟩
            · omega
      · rw [na x (by omega), nb x (by omega)]
        constructor
        · rintro (k | k)
          · omega
          · exact .inr ⟨by omega, k.2⟩
        · rintro (k | k)
          · omega
          · exact .inr ⟨by omega, k.2⟩
    have inA : ∀ x, Inn acc x → x < t := fun x ⟨s, hs1, _, hs3⟩ => by have := hc s hs1; omega
    by_cases hw : whoN (begunB a t) (begunB b t) = 0
    · rw [if_pos hw, List.nil_append]
      refine key acc hs (fun s hs => by have := hc s hs; exact ⟨by omega, by omega, this.2.2⟩) (fun x => ?_)
      unfold wants
      constructor
      · intro k; exact .inl ⟨inA x k, k⟩
      · rintro (k | k)
        · exact k.2
        · exact absurd hw k.2.2.1
    · rw [if_neg hw]
      rw [show pickL f acc ([((t, toI a b t), whoN (begunB a t) (begunB b t))] ++ r) = pickL f (if f (whoN (begunB a t) (begunB b t)) then addL acc (t, toI a b t) else acc) r from rfl]
      by_cases hf : f (whoN (begunB a t) (begunB b t)) = true
      · rw [if_pos hf]
        obtain ⟨k1, k2, k3⟩ := addL_set (l := acc) (s := (t, toI a b t)) hs h1 (fun q hq => by have := hc q hq; show q.1 ≤ t; omega)
        refine key _ k1 (fun s hs => ?_) (fun x => ?_)
        · refine addL_all (P := fun s => s.1 < toI a b t ∧ s.2 ≤ toI a b t ∧ SpOk s) (fun s hs => by have := hc s hs; exact ⟨by omega, by omega, this.2.2⟩) ⟨h1, Int.le_refl _, sp⟩ (fun p hp => ?_) s hs
          have := hp
          refine ⟨hp.1, ?_, ?_⟩
          · show max p.2 (toI a b t) ≤ _; omega
          · obtain ⟨q1, q2, q3⟩ := hp.2.2
            refine ⟨q1, ?_, ?_⟩
            · show minT ≤ max p.2 (toI a b t); omega
            · show max p.2 (toI a b t) ≤ maxT; omega
        · rw [k2 x]
          unfold wants
          show Inn acc x ∨ (t ≤ x ∧ x < toI a b t) ↔ _
          constructor
          · rintro (k | k)
            · exact .inl ⟨inA x k, k⟩
            · exact .inr ⟨k.1, k.2, hw, hf⟩
          · rintro (k | k)
            · exact .inl k.2
            · exact .inr ⟨k.1, k.2.1⟩
      · rw [if_neg hf]
        refine key acc hs (fun s hs => by have := hc s hs; exact ⟨by omega, by omega, this.2.2⟩) (fun x => ?_)
        unfold wants
        constructor
        · intro k; exact .inl ⟨inA x k, k⟩
        · rintro (k | k)
          · exact k.2
          · exact absurd k.2.2.2 hf
end Go.Proofs.Ytkoknogefmfmnaa

/-
  CONTRACTS over spans: mayBe, isSet, begun, turn, behind.
-/
namespace Go.Proofs.Ytkoknogefmfmnaa
open Go.RowKit

/-- one span's cells -/
structure SpAt (W : World) (b o : Nat) (s : Sp) : Prop where
  c0 : W.cell? ⟨b, o, none⟩ = some (.int .i64 s.1)
  c1 : W.cell? ⟨b, o + 1, none⟩ = some (.int .i64 s.2)
/-- a slice that reads as these spans, in blocks below B -/
def SlS (W : World) (B : Nat) (A : Option Addr) (l : List Sp) : Prop :=
  l ≠ [] → ∃ b o, A = some ⟨b, o, none⟩ ∧ b < B ∧ ∀ (j : Nat) (s : Sp), l[j]? = some s → SpAt W b (o + j * 2) s
theorem SpAt.next {W W' : World} {B b o : Nat} {s : Sp} (h : SpAt W b o s) (hb : Below B W W') (hB : b < B) : SpAt W' b o s :=
  ⟨(hb.cell (p := ⟨b, o, none⟩) hB).trans h.c0, (hb.cell (p := ⟨b, o + 1, none⟩) hB).trans h.c1⟩
theorem SlS.next {W W' : World} {B : Nat} {A : Option Addr} {l : List Sp} (h : SlS W B A l) {B' : Nat} (hb : Below B' W W') (hB : B ≤ B') : SlS W' B A l := fun hl => by
  obtain ⟨b, o, e, hlt, hc⟩ := h hl
  exact ⟨b, o, e, hlt, fun j p hp => (hc j p hp).next hb (by omega)⟩
theorem SlS.more {W : World} {B B' : Nat} {A : Option Addr} {l : List Sp} (h : SlS W B A l) (hB : B ≤ B') : SlS W B' A l := fun hl => by
  obtain ⟨b, o, e, hlt, hc⟩ := h hl
  exact ⟨b, o, e, by omega, hc⟩
theorem SlS.drewN {W : World} {B : Nat} {A : Option Addr} {l : List Sp} (h : SlS W B A l) (n : Nat) : SlS (W.drewN n) B A l := fun hl => by
  obtain ⟨b, o, e, hlt, hc⟩ := h hl
  exact ⟨b, o, e, hlt, fun j p hp => ⟨(hc j p hp).c0, (hc j p hp).c1⟩⟩
theorem SlS.at_ {W : World} {B : Nat} {A : Option Addr} {l : List Sp} (h : SlS W B A l) {j : Nat} (hj : j < l.length) : ∃ b o, A = some ⟨b, o, none⟩ ∧ b < B ∧ SpAt W b (o + j * 2) l[j] := by
  obtain ⟨b, o, e, hlt, hc⟩ := h (by intro e; rw [e] at hj; simp at hj)
  exact ⟨b, o, e, hlt, hc j _ (List.getElem?_eq_getElem hj)⟩
theorem slS_nil (W : World) (B : Nat) : SlS W B none [] := fun h => absurd rfl h
/-- where a slice's rest stands -/
def cutS (A : Option Addr) (c k : Nat) : Option Addr := if c = k then A else A.map (·.add (k * 2))
theorem SlS.tail {W : World} {B : Nat} {A : Option Addr} {s : Sp} {l : List Sp} (h : SlS W B A (s :: l)) {c : Nat} (hlc : (s :: l).length ≤ c) : SlS W B (cutS A c 1) l := fun hl => by
  obtain ⟨b, o, rfl, hlt, hc⟩ := h (by simp)
  have h1 : 1 ≤ l.length := by
    cases l with
    | nil => exact absurd rfl hl
    | cons _ _ => simp
  rw [List.length_cons] at hlc
  unfold cutS
  rw [if_neg (by omega)]
  refine ⟨b, o + 2, rfl, hlt, fun j p hp => ?_⟩
  have := hc (j + 1) p (by simpa using hp)
  rwa [show o + (j + 1) * 2 = o + 2 + j * 2 from by omega] at this
theorem sliceS_from (A : Option Addr) (n c k : Nat) (hk : k ≤ n) (w : World) : (Instr.slice 128 (.slice A n c) (some (.int .i64 (k : Int))) none none).run Try.prog w = .ok (.slice (cutS A c k) (n - k) (c - k)) w := by
  have hT : Try.prog.underlying 128 = some (.slice (Try.prog.elem 128)) := by kernel_rfl
  have hS : (Go.sizeOf (Try.prog.elem 128)).run Try.prog w = .ok 2 w := by kernel_rfl
  rw [run_slice_l (w := w) 128 A n c hT .i64 (k : Int) (by omega) (by omega), hS]
  simp [Result.andThen, sliced, cutS]

set_option maxHeartbeats 400000 in
theorem spMay_any (x y : Int) (w : World) :
    Calls Try.prog 117 #[.agg #[.int .i64 x, .int .i64 y]] w fun e w' => e = .returned (.bool (decide (x < y))) ∧ Below w.heap.size w w' := by
  go_enter Try.func117, Try.ntmps117
  go_wp2
  go_ret
  exact ⟨rfl, (Below.refl _ _).alloc (Nat.le_refl _) _⟩

end Go.Proofs.Ytkoknogefmfmnaa

/-
  CONTRACT: isSet (are spans a set?).
-/
namespace Go.Proofs.Ytkoknogefmfmnaa
open Go.RowKit

theorem below_ind {B : Nat} {a w : World} (h : Below B a w) (n : Nat) : Below B a (w.drewN n) := ⟨h.os, h.tape, h.output, h.size, h.block⟩
/-- the box that a span is put into, and the slice -/
def SBox (w0 : World) (A : Option Addr) (l : List Sp) (bx : Nat) (s : Sp) (W : World) : Prop :=
  W.cell? ⟨bx, 0, none⟩ = some (.int .i64 s.1) ∧ W.cell? ⟨bx, 1, none⟩ = some (.int .i64 s.2) ∧ SlS W w0.heap.size A l ∧ Below w0.heap.size w0 W ∧ w0.heap.size ≤ bx ∧ bx < W.heap.size
theorem sBox_new {w0 wr : World} {A : Option Addr} {l : List Sp} {s : Sp} {t : TypeId} (hs : SlS wr w0.heap.size A l) (hb : Below w0.heap.size w0 wr) : SBox w0 A l wr.heap.size s (wr.alloc (.cells #[.int .i64 s.1, .int .i64 s.2] t)) :=
  ⟨by go_simp, by go_simp, hs.next (B' := w0.heap.size) ((Below.refl _ _).alloc hb.size _) (Nat.le_refl _), hb.alloc hb.size _, hb.size, by simp⟩
theorem sBox_next {w0 W W' : World} {A : Option Addr} {l : List Sp} {bx : Nat} {s : Sp} (h : SBox w0 A l bx s W) (hb : Below W.heap.size W W') : SBox w0 A l bx s W' := by
  obtain ⟨h1, h2, h3, h4, h5, h6⟩ := h
  exact ⟨(hb.cell (p := ⟨_, 0, none⟩) h6).trans h1, (hb.cell (p := ⟨_, 1, none⟩) h6).trans h2, h3.next hb h4.size, h4.trans (hb.mono h4.size), h5, by have := hb.size; omega⟩
theorem sBox_drew {w0 W : World} {A : Option Addr} {l : List Sp} {bx : Nat} {s : Sp} (h : SBox w0 A l bx s W) (n : Nat) : SBox w0 A l bx s (W.drewN n) := by
  obtain ⟨h1, h2, h3, h4, h5, h6⟩ := h
  exact ⟨h1, h2, h3.drewN n, below_ind h4 n, h5, h6⟩
theorem SlS.cell_ {W : World} {B : Nat} {A : Option Addr} {l : List Sp} (h : SlS W B A l) {b o j : Nat} {p : Sp} (hA : A = some ⟨b, o, none⟩) (hp : l[j]? = some p) : W.cell? ⟨b, o + j * 2 + 1, none⟩ = some (.int .i64 p.2) := by
  obtain ⟨b', o', e, _, hc⟩ := h (fun e => by rw [e] at hp; cases hp)
  rw [hA] at e
  cases e
  exact (hc j p hp).c1

theorem sBox_drew1 {w0 W : World} {A : Option Addr} {l : List Sp} {bx : Nat} {s : Sp} (h : SBox w0 A l bx s W) : SBox w0 A l bx s W.drew := sBox_drew h 1
theorem spMay_is (x y : Int) (v : Bool) (h : decide (x < y) = v) (w : World) :
    Calls Try.prog 117 #[.agg #[.int .i64 x, .int .i64 y]] w fun e w' => e = .returned (.bool v) ∧ Below w.heap.size w w' := by
  subst h; exact spMay_any x y w

set_option maxRecDepth 100000 in
set_option maxHeartbeats 4000000 in
theorem isSet_any (A : Option Addr) (c : Nat) (l : List Sp) (w : World) (hs : SlS w w.heap.size A l) (hl : l.length ≤ 100000) :
    Calls Try.prog 109 #[.slice A l.length c] w fun e w' => e = .returned (.bool (setB l)) ∧ Below w.heap.size w w' := by
  have HS := Lib.hid hs
  clear hs
  go_enter Try.func109, Try.ntmps109
  go_wp2
  go_loopg [3, 4, 7] l.length (fun g x y z wr => ∃ (j : Nat), z = .int .i64 j ∧ j + g = l.length ∧ Hid (∀ i, i < j → OkAt l i) ∧ Hid (Below w.heap.size w wr))
  case atStart => exact ⟨0, rfl, by omega, fun i hi => by omega, Below.refl _ _⟩
  case round =>
    obtain ⟨j, rfl, hj, HO, HB⟩ := hrel
    cases gk with
    | zero =>
      have hjz : ¬ ((j : Int) < (l.length : Int)) := by omega
      have HE := Lib.hid (setB_all (l := l) (fun i hi => HO.out i (by omega)))
      go_wp2
      go_ret
      exact ⟨by rw [HE.out]; rfl, HB.out⟩
    | succ g =>
      have hjz : (j : Int) < (l.length : Int) := by omega
      have hjn : j < l.length := by omega
      have hsr := HS.out.next HB.out (Nat.le_refl _)
      obtain ⟨b, o, hA, _, hp⟩ := hsr.at_ hjn
      have HSR := Lib.hid hsr
      obtain ⟨s, hse⟩ : ∃ s, l[j] = s := ⟨_, rfl⟩
      have hsg : l[j]? = some s := by rw [List.getElem?_eq_getElem hjn, hse]
      rw [hse] at hp
      have HSG := Lib.hid hsg
      have c0 := hp.c0
      have c1 := hp.c1
      have HA := Lib.hid hA
      subst hA
      clear hp hse hsg hsr
      obtain ⟨x, y⟩ := s
      have HX := Lib.hid (sBox_new (s := (x, y)) (t := 127) HSR.out HB.out)
      by_cases hxy : x < y
      · have HMV : Hid (decide (x < y) = true) := decide_eq_true hxy
        have HXY := Lib.hid hxy
        clear hxy
        cases j with
        | zero =>
          have HY : Hid (∀ i, i < 0 + 1 → OkAt l i) := fun i hi => by
            obtain rfl : i = 0 := by omega
            exact (okAt_first HSG.out).2 HXY.out
          simp only [Nat.zero_mul, Nat.add_zero] at c0 c1
          go_wp2
          refine wp_region_held_drew (S := SBox w (some ⟨b, o, none⟩) l wr.heap.size (x, y)) (by kernel_rfl) (sBox_drew1 HX.out) (fun hHeld => ?_)
          refine takeV 0 (some 12) ((.agg #[.int .i64 x, .int .i64 y])) rfl rfl (by kernel_rfl) (by kernel_rfl) (by kernel_rfl) (fun _ _ _ h => h) (by rfl) (by (intro _w hSw; have q0 := hSw.1; have q1 := hSw.2.1; clear hSw; go_simp)) (by assumption) ?_
          simp only [Act.put, List.setIfInBounds_toArray, List.set_cons_zero, List.set_cons_succ]
          refine callV 1 rfl (by kernel_rfl) (by rfl) (fun K hK => ?_)
          go_simp
          go_at_call 117
          refine (spMay_is x y true HMV.out _).mono ?_
          rintro e w3 ⟨rfl, hb3⟩
          have g3 := sBox_next hHeld hb3
          refine hK.out _ _ g3 (fun hHeld3 => ?_)
          clear hK g3 K hHeld hb3
          try simp only [Act.put, List.setIfInBounds_toArray, List.set_cons_zero, List.set_cons_succ]
          refine takeV 2 (some 14) ((.bool false)) rfl rfl (by kernel_rfl) (by kernel_rfl) (by kernel_rfl) (fun _ _ _ h => h) (by rfl) (by (intro _w _hSw; (try dsimp only at _hSw); go_simp)) (by assumption) ?_
          simp only [Act.put, List.setIfInBounds_toArray, List.set_cons_zero, List.set_cons_succ]
          refine takeV 3 (some 15) ((.bool false)) rfl rfl (by kernel_rfl) (by kernel_rfl) (by kernel_rfl) (fun _ _ _ h => h) (by rfl) (by (intro _w _hSw; (try dsimp only at _hSw); go_simp)) (by assumption) ?_
          simp only [Act.put, List.setIfInBounds_toArray, List.set_cons_zero, List.set_cons_succ]
          refine takeV 4 (some 16) ((.int .i64 0)) rfl rfl (by kernel_rfl) (by kernel_rfl) (by kernel_rfl) (fun _ _ _ h => h) (by rfl) (by (intro _w _hSw; (try dsimp only at _hSw); go_simp)) (by assumption) ?_
          simp only [Act.put, List.setIfInBounds_toArray, List.set_cons_zero, List.set_cons_succ]
          refine takeV 5 (some 17) ((.bool false)) rfl rfl (by kernel_rfl) (by kernel_rfl) (by kernel_rfl) (fun _ _ _ h => h) (by rfl) (by (intro _w _hSw; (try dsimp only at _hSw); go_simp)) (by assumption) ?_
          simp only [Act.put, List.setIfInBounds_toArray, List.set_cons_zero, List.set_cons_succ]
          refine takeV 6 (some 18) ((.bool false)) rfl rfl (by kernel_rfl) (by kernel_rfl) (by kernel_rfl) (fun _ _ _ h => h) (by rfl) (by (intro _w _hSw; (try dsimp only at _hSw); go_simp)) (by assumption) ?_
          simp only [Act.put, List.setIfInBounds_toArray, List.set_cons_zero, List.set_cons_succ]
          refine skipV 7 (some 19) rfl rfl (by kernel_rfl) (by kernel_rfl) (by kernel_rfl) (fun _ _ _ h => h) (by rfl) (by assumption) ?_
          simp only [Act.put, List.setIfInBounds_toArray, List.set_cons_zero, List.set_cons_succ]
          refine skipV 8 (some 20) rfl rfl (by kernel_rfl) (by kernel_rfl) (by kernel_rfl) (fun _ _ _ h => h) (by rfl) (by assumption) ?_
          simp only [Act.put, List.setIfInBounds_toArray, List.set_cons_zero, List.set_cons_succ]
          refine skipV 9 (some 21) rfl rfl (by kernel_rfl) (by kernel_rfl) (by kernel_rfl) (fun _ _ _ h => h) (by rfl) (by assumption) ?_
          simp only [Act.put, List.setIfInBounds_toArray, List.set_cons_zero, List.set_cons_succ]
          refine skipV 10 (some 22) rfl rfl (by kernel_rfl) (by kernel_rfl) (by kernel_rfl) (fun _ _ _ h => h) (by rfl) (by assumption) ?_
          simp only [Act.put, List.setIfInBounds_toArray, List.set_cons_zero, List.set_cons_succ]
          refine skipV 11 (some 23) rfl rfl (by kernel_rfl) (by kernel_rfl) (by kernel_rfl) (fun _ _ _ h => h) (by rfl) (by assumption) ?_
          simp only [Act.put, List.setIfInBounds_toArray, List.set_cons_zero, List.set_cons_succ]
          refine skipV 12 (some 24) rfl rfl (by kernel_rfl) (by kernel_rfl) (by kernel_rfl) (fun _ _ _ h => h) (by rfl) (by assumption) ?_
          simp only [Act.put, List.setIfInBounds_toArray, List.set_cons_zero, List.set_cons_succ]
          refine skipV 13 (some 25) rfl rfl (by kernel_rfl) (by kernel_rfl) (by kernel_rfl) (fun _ _ _ h => h) (by rfl) (by assumption) ?_
          simp only [Act.put, List.setIfInBounds_toArray, List.set_cons_zero, List.set_cons_succ]
          refine skipV 14 (some 26) rfl rfl (by kernel_rfl) (by kernel_rfl) (by kernel_rfl) (fun _ _ _ h => h) (by rfl) (by assumption) ?_
          simp only [Act.put, List.setIfInBounds_toArray, List.set_cons_zero, List.set_cons_succ]
          refine skipV 15 (some 27) rfl rfl (by kernel_rfl) (by kernel_rfl) (by kernel_rfl) (fun _ _ _ h => h) (by rfl) (by assumption) ?_
          simp only [Act.put, List.setIfInBounds_toArray, List.set_cons_zero, List.set_cons_succ]
          refine takeV 16 (some 28) ((.bool false)) rfl rfl (by kernel_rfl) (by kernel_rfl) (by kernel_rfl) (fun _ _ _ h => h) (by rfl) (by (intro _w _hSw; (try dsimp only at _hSw); go_simp)) (by assumption) ?_
          simp only [Act.put, List.setIfInBounds_toArray, List.set_cons_zero, List.set_cons_succ]
          refine takeV 17 (some 29) ((.bool false)) rfl rfl (by kernel_rfl) (by kernel_rfl) (by kernel_rfl) (fun _ _ _ h => h) (by rfl) (by (intro _w _hSw; (try dsimp only at _hSw); go_simp)) (by assumption) ?_
          simp only [Act.put, List.setIfInBounds_toArray, List.set_cons_zero, List.set_cons_succ]
          refine wpAnyH_done (by kernel_rfl) ?_ _
          have HBN := Lib.hid hHeld3.2.2.2.1
          clear hHeld3
          go_wp2
          go_roundg g
          case measure => omega
          case rel => exact ⟨0 + 1, rfl, by omega, fun i hi => HY.out i hi, HBN.out⟩
        | succ k =>
          obtain ⟨p, hpg⟩ : ∃ p, l[k]? = some p := ⟨l[k], List.getElem?_eq_getElem (by omega)⟩
          have HPG := Lib.hid hpg
          clear hpg
          have hk0 : (0 : Int) < ((k + 1 : Nat) : Int) := by omega
          have hkl : k < l.length := by omega
          have hwr : IntKind.i64.wrap (k : Int) = (k : Int) := by
            rw [IntWalk.i64_in _ (by omega)]
          by_cases hle : x ≤ p.2
          · have HN := Lib.hid (setB_no (l := l) (i := k + 1) (fun h => by have := ((okAt_next (by omega) HSG.out HPG.out).1 h).2; simp only at this; omega))
            have hd : decide (x ≤ p.2) = true := decide_eq_true hle
            go_wp2
            refine wp_region_held_drew (S := SBox w (some ⟨b, o, none⟩) l wr.heap.size (x, y)) (by kernel_rfl) (sBox_drew1 HX.out) (fun hHeld => ?_)
            refine takeV 0 (some 12) ((.agg #[.int .i64 x, .int .i64 y])) rfl rfl (by kernel_rfl) (by kernel_rfl) (by kernel_rfl) (fun _ _ _ h => h) (by rfl) (by (intro _w hSw; have q0 := hSw.1; have q1 := hSw.2.1; clear hSw; go_simp)) (by assumption) ?_
            simp only [Act.put, List.setIfInBounds_toArray, List.set_cons_zero, List.set_cons_succ]
            refine callV 1 rfl (by kernel_rfl) (by rfl) (fun K hK => ?_)
            go_simp
            go_at_call 117
            refine (spMay_is x y true HMV.out _).mono ?_
            rintro e w3 ⟨rfl, hb3⟩
            have g3 := sBox_next hHeld hb3
            refine hK.out _ _ g3 (fun hHeld3 => ?_)
            clear hK g3 K hHeld hb3
            try simp only [Act.put, List.setIfInBounds_toArray, List.set_cons_zero, List.set_cons_succ]
            refine takeV 2 (some 14) ((.bool false)) rfl rfl (by kernel_rfl) (by kernel_rfl) (by kernel_rfl) (fun _ _ _ h => h) (by rfl) (by (intro _w _hSw; (try dsimp only at _hSw); go_simp)) (by assumption) ?_
            simp only [Act.put, List.setIfInBounds_toArray, List.set_cons_zero, List.set_cons_succ]
            refine takeV 3 (some 15) ((.bool false)) rfl rfl (by kernel_rfl) (by kernel_rfl) (by kernel_rfl) (fun _ _ _ h => h) (by rfl) (by (intro _w _hSw; (try dsimp only at _hSw); go_simp)) (by assumption) ?_
            simp only [Act.put, List.setIfInBounds_toArray, List.set_cons_zero, List.set_cons_succ]
            refine takeV 4 (some 16) ((.int .i64 ((k + 1 : Nat) : Int))) rfl rfl (by kernel_rfl) (by kernel_rfl) (by kernel_rfl) (fun _ _ _ h => h) (by rfl) (by (intro _w _hSw; (try dsimp only at _hSw); go_simp)) (by assumption) ?_
            simp only [Act.put, List.setIfInBounds_toArray, List.set_cons_zero, List.set_cons_succ]
            refine takeV 5 (some 17) ((.bool true)) rfl rfl (by kernel_rfl) (by kernel_rfl) (by kernel_rfl) (fun _ _ _ h => h) (by rfl) (by (intro _w _hSw; (try dsimp only at _hSw); go_simp)) (by assumption) ?_
            simp only [Act.put, List.setIfInBounds_toArray, List.set_cons_zero, List.set_cons_succ]
            refine takeV 6 (some 18) ((.bool true)) rfl rfl (by kernel_rfl) (by kernel_rfl) (by kernel_rfl) (fun _ _ _ h => h) (by rfl) (by (intro _w _hSw; (try dsimp only at _hSw); go_simp)) (by assumption) ?_
            simp only [Act.put, List.setIfInBounds_toArray, List.set_cons_zero, List.set_cons_succ]
            refine takeV 7 (some 19) ((.pointer (some ⟨wr.heap.size, 0, none⟩))) rfl rfl (by kernel_rfl) (by kernel_rfl) (by kernel_rfl) (fun _ _ _ h => h) (by rfl) (by (intro _w _hSw; (try dsimp only at _hSw); go_simp)) (by assumption) ?_
            simp only [Act.put, List.setIfInBounds_toArray, List.set_cons_zero, List.set_cons_succ]
            refine takeV 8 (some 20) ((.int .i64 x)) rfl rfl (by kernel_rfl) (by kernel_rfl) (by kernel_rfl) (fun _ _ _ h => h) (by rfl) (by (intro _w hSw; have q0 := hSw.1; clear hSw; go_simp)) (by assumption) ?_
            simp only [Act.put, List.setIfInBounds_toArray, List.set_cons_zero, List.set_cons_succ]
            refine takeV 9 (some 21) ((.slice (some ⟨b, o, none⟩) l.length c)) rfl rfl (by kernel_rfl) (by kernel_rfl) (by kernel_rfl) (fun _ _ _ h => h) (by rfl) (by (intro _w _hSw; (try dsimp only at _hSw); go_simp)) (by assumption) ?_
            simp only [Act.put, List.setIfInBounds_toArray, List.set_cons_zero, List.set_cons_succ]
            refine takeV 10 (some 22) ((.int .i64 ((k + 1 : Nat) : Int))) rfl rfl (by kernel_rfl) (by kernel_rfl) (by kernel_rfl) (fun _ _ _ h => h) (by rfl) (by (intro _w _hSw; (try dsimp only at _hSw); go_simp)) (by assumption) ?_
            simp only [Act.put, List.setIfInBounds_toArray, List.set_cons_zero, List.set_cons_succ]
            refine takeV 11 (some 23) ((.int .i64 (k : Int))) rfl rfl (by kernel_rfl) (by kernel_rfl) (by kernel_rfl) (fun _ _ _ h => h) (by rfl) (by (intro _w _hSw; (try dsimp only at _hSw); go_simp)) (by assumption) ?_
            simp only [Act.put, List.setIfInBounds_toArray, List.set_cons_zero, List.set_cons_succ]
            refine takeV 12 (some 24) ((.pointer (some ⟨b, o + k * 2, none⟩))) rfl rfl (by kernel_rfl) (by kernel_rfl) (by kernel_rfl) (fun _ _ _ h => h) (by rfl) (by (intro _w _hSw; (try dsimp only at _hSw); go_simp)) (by assumption) ?_
            simp only [Act.put, List.setIfInBounds_toArray, List.set_cons_zero, List.set_cons_succ]
            refine takeV 13 (some 25) ((.pointer (some ⟨b, o + k * 2 + 1, none⟩))) rfl rfl (by kernel_rfl) (by kernel_rfl) (by kernel_rfl) (fun _ _ _ h => h) (by rfl) (by (intro _w _hSw; (try dsimp only at _hSw); go_simp)) (by assumption) ?_
            simp only [Act.put, List.setIfInBounds_toArray, List.set_cons_zero, List.set_cons_succ]
            refine takeV 14 (some 26) ((.int .i64 p.2)) rfl rfl (by kernel_rfl) (by kernel_rfl) (by kernel_rfl) (fun _ _ _ h => h) (by rfl) (by (intro _w hSw; have q2 := SlS.cell_ hSw.2.2.1 rfl HPG.out; clear hSw; go_simp)) (by assumption) ?_
            simp only [Act.put, List.setIfInBounds_toArray, List.set_cons_zero, List.set_cons_succ]
            refine takeV 15 (some 27) ((.bool true)) rfl rfl (by kernel_rfl) (by kernel_rfl) (by kernel_rfl) (fun _ _ _ h => h) (by rfl) (by (intro _w _hSw; (try dsimp only at _hSw); go_simp)) (by assumption) ?_
            simp only [Act.put, List.setIfInBounds_toArray, List.set_cons_zero, List.set_cons_succ]
            refine takeV 16 (some 28) ((.bool true)) rfl rfl (by kernel_rfl) (by kernel_rfl) (by kernel_rfl) (fun _ _ _ h => h) (by rfl) (by (intro _w _hSw; (try dsimp only at _hSw); go_simp)) (by assumption) ?_
            simp only [Act.put, List.setIfInBounds_toArray, List.set_cons_zero, List.set_cons_succ]
            refine takeV 17 (some 29) ((.bool true)) rfl rfl (by kernel_rfl) (by kernel_rfl) (by kernel_rfl) (fun _ _ _ h => h) (by rfl) (by (intro _w _hSw; (try dsimp only at _hSw); go_simp)) (by assumption) ?_
            simp only [Act.put, List.setIfInBounds_toArray, List.set_cons_zero, List.set_cons_succ]
            refine wpAnyH_done (by kernel_rfl) ?_ _
            have HBN := Lib.hid hHeld3.2.2.2.1
            clear hHeld3
            go_wp2
            go_ret
            exact ⟨by rw [HN.out]; rfl, HBN.out⟩
          · have HY : Hid (∀ i, i < k + 1 + 1 → OkAt l i) := fun i hi => by
              by_cases hik : i = k + 1
              · subst hik
                exact (okAt_next (by omega) HSG.out HPG.out).2 ⟨HXY.out, by omega⟩
              · exact HO.out i (by omega)
            have hd : decide (x ≤ p.2) = false := decide_eq_false hle
            go_wp2
            refine wp_region_held_drew (S := SBox w (some ⟨b, o, none⟩) l wr.heap.size (x, y)) (by kernel_rfl) (sBox_drew1 HX.out) (fun hHeld => ?_)
            refine takeV 0 (some 12) ((.agg #[.int .i64 x, .int .i64 y])) rfl rfl (by kernel_rfl) (by kernel_rfl) (by kernel_rfl) (fun _ _ _ h => h) (by rfl) (by (intro _w hSw; have q0 := hSw.1; have q1 := hSw.2.1; clear hSw; go_simp)) (by assumption) ?_
            simp only [Act.put, List.setIfInBounds_toArray, List.set_cons_zero, List.set_cons_succ]
            refine callV 1 rfl (by kernel_rfl) (by rfl) (fun K hK => ?_)
            go_simp
            go_at_call 117
            refine (spMay_is x y true HMV.out _).mono ?_
            rintro e w3 ⟨rfl, hb3⟩
            have g3 := sBox_next hHeld hb3
            refine hK.out _ _ g3 (fun hHeld3 => ?_)
            clear hK g3 K hHeld hb3
            try simp only [Act.put, List.setIfInBounds_toArray, List.set_cons_zero, List.set_cons_succ]
            refine takeV 2 (some 14) ((.bool false)) rfl rfl (by kernel_rfl) (by kernel_rfl) (by kernel_rfl) (fun _ _ _ h => h) (by rfl) (by (intro _w _hSw; (try dsimp only at _hSw); go_simp)) (by assumption) ?_
            simp only [Act.put, List.setIfInBounds_toArray, List.set_cons_zero, List.set_cons_succ]
            refine takeV 3 (some 15) ((.bool false)) rfl rfl (by kernel_rfl) (by kernel_rfl) (by kernel_rfl) (fun _ _ _ h => h) (by rfl) (by (intro _w _hSw; (try dsimp only at _hSw); go_simp)) (by assumption) ?_
            simp only [Act.put, List.setIfInBounds_toArray, List.set_cons_zero, List.set_cons_succ]
            refine takeV 4 (some 16) ((.int .i64 ((k + 1 : Nat) : Int))) rfl rfl (by kernel_rfl) (by kernel_rfl) (by kernel_rfl) (fun _ _ _ h => h) (by rfl) (by (intro _w _hSw; (try dsimp only at _hSw); go_simp)) (by assumption) ?_
            simp only [Act.put, List.setIfInBounds_toArray, List.set_cons_zero, List.set_cons_succ]
            refine takeV 5 (some 17) ((.bool true)) rfl rfl (by kernel_rfl) (by kernel_rfl) (by kernel_rfl) (fun _ _ _ h => h) (by rfl) (by (intro _w _hSw; (try dsimp only at _hSw); go_simp)) (by assumption) ?_
            simp only [Act.put, List.setIfInBounds_toArray, List.set_cons_zero, List.set_cons_succ]
            refine takeV 6 (some 18) ((.bool true)) rfl rfl (by kernel_rfl) (by kernel_rfl) (by kernel_rfl) (fun _ _ _ h => h) (by rfl) (by (intro _w _hSw; (try dsimp only at _hSw); go_simp)) (by assumption) ?_
            simp only [Act.put, List.setIfInBounds_toArray, List.set_cons_zero, List.set_cons_succ]
            refine takeV 7 (some 19) ((.pointer (some ⟨wr.heap.size, 0, none⟩))) rfl rfl (by kernel_rfl) (by kernel_rfl) (by kernel_rfl) (fun _ _ _ h => h) (by rfl) (by (intro _w _hSw; (try dsimp only at _hSw); go_simp)) (by assumption) ?_
            simp only [Act.put, List.setIfInBounds_toArray, List.set_cons_zero, List.set_cons_succ]
            refine takeV 8 (some 20) ((.int .i64 x)) rfl rfl (by kernel_rfl) (by kernel_rfl) (by kernel_rfl) (fun _ _ _ h => h) (by rfl) (by (intro _w hSw; have q0 := hSw.1; clear hSw; go_simp)) (by assumption) ?_
            simp only [Act.put, List.setIfInBounds_toArray, List.set_cons_zero, List.set_cons_succ]
            refine takeV 9 (some 21) ((.slice (some ⟨b, o, none⟩) l.length c)) rfl rfl (by kernel_rfl) (by kernel_rfl) (by kernel_rfl) (fun _ _ _ h => h) (by rfl) (by (intro _w _hSw; (try dsimp only at _hSw); go_simp)) (by assumption) ?_
            simp only [Act.put, List.setIfInBounds_toArray, List.set_cons_zero, List.set_cons_succ]
            refine takeV 10 (some 22) ((.int .i64 ((k + 1 : Nat) : Int))) rfl rfl (by kernel_rfl) (by kernel_rfl) (by kernel_rfl) (fun _ _ _ h => h) (by rfl) (by (intro _w _hSw; (try dsimp only at _hSw); go_simp)) (by assumption) ?_
            simp only [Act.put, List.setIfInBounds_toArray, List.set_cons_zero, List.set_cons_succ]
            refine takeV 11 (some 23) ((.int .i64 (k : Int))) rfl rfl (by kernel_rfl) (by kernel_rfl) (by kernel_rfl) (fun _ _ _ h => h) (by rfl) (by (intro _w _hSw; (try dsimp only at _hSw); go_simp)) (by assumption) ?_
            simp only [Act.put, List.setIfInBounds_toArray, List.set_cons_zero, List.set_cons_succ]
            refine takeV 12 (some 24) ((.pointer (some ⟨b, o + k * 2, none⟩))) rfl rfl (by kernel_rfl) (by kernel_rfl) (by kernel_rfl) (fun _ _ _ h => h) (by rfl) (by (intro _w _hSw; (try dsimp only at _hSw); go_simp)) (by assumption) ?_
            simp only [Act.put, List.setIfInBounds_toArray, List.set_cons_zero, List.set_cons_succ]
            refine takeV 13 (some 25) ((.pointer (some ⟨b, o + k * 2 + 1, none⟩))) rfl rfl (by kernel_rfl) (by kernel_rfl) (by kernel_rfl) (fun _ _ _ h => h) (by rfl) (by (intro _w _hSw; (try dsimp only at _hSw); go_simp)) (by assumption) ?_
            simp only [Act.put, List.setIfInBounds_toArray, List.set_cons_zero, List.set_cons_succ]
            refine takeV 14 (some 26) ((.int .i64 p.2)) rfl rfl (by kernel_rfl) (by kernel_rfl) (by kernel_rfl) (fun _ _ _ h => h) (by rfl) (by (intro _w hSw; have q2 := SlS.cell_ hSw.2.2.1 rfl HPG.out; clear hSw; go_simp)) (by assumption) ?_
            simp only [Act.put, List.setIfInBounds_toArray, List.set_cons_zero, List.set_cons_succ]
            refine takeV 15 (some 27) ((.bool false)) rfl rfl (by kernel_rfl) (by kernel_rfl) (by kernel_rfl) (fun _ _ _ h => h) (by rfl) (by (intro _w _hSw; (try dsimp only at _hSw); go_simp)) (by assumption) ?_
            simp only [Act.put, List.setIfInBounds_toArray, List.set_cons_zero, List.set_cons_succ]
            refine takeV 16 (some 28) ((.bool false)) rfl rfl (by kernel_rfl) (by kernel_rfl) (by kernel_rfl) (fun _ _ _ h => h) (by rfl) (by (intro _w _hSw; (try dsimp only at _hSw); go_simp)) (by assumption) ?_
            simp only [Act.put, List.setIfInBounds_toArray, List.set_cons_zero, List.set_cons_succ]
            refine takeV 17 (some 29) ((.bool false)) rfl rfl (by kernel_rfl) (by kernel_rfl) (by kernel_rfl) (fun _ _ _ h => h) (by rfl) (by (intro _w _hSw; (try dsimp only at _hSw); go_simp)) (by assumption) ?_
            simp only [Act.put, List.setIfInBounds_toArray, List.set_cons_zero, List.set_cons_succ]
            refine wpAnyH_done (by kernel_rfl) ?_ _
            have HBN := Lib.hid hHeld3.2.2.2.1
            clear hHeld3
            go_wp2
            go_roundg g
            case measure => omega
            case rel => exact ⟨k + 1 + 1, by go_num, by omega, HY.out, HBN.out⟩
      · have HMV : Hid (decide (x < y) = false) := decide_eq_false hxy
        have HN := Lib.hid (setB_no (l := l) (i := j) (fun h => hxy ((h _ HSG.out).1)))
        clear hxy
        go_wp2
        refine wp_region_held_drew (S := SBox w (some ⟨b, o, none⟩) l wr.heap.size (x, y)) (by kernel_rfl) (sBox_drew1 HX.out) (fun hHeld => ?_)
        refine takeV 0 (some 12) ((.agg #[.int .i64 x, .int .i64 y])) rfl rfl (by kernel_rfl) (by kernel_rfl) (by kernel_rfl) (fun _ _ _ h => h) (by rfl) (by (intro _w hSw; have q0 := hSw.1; have q1 := hSw.2.1; clear hSw; go_simp)) (by assumption) ?_
        simp only [Act.put, List.setIfInBounds_toArray, List.set_cons_zero, List.set_cons_succ]
        refine callV 1 rfl (by kernel_rfl) (by rfl) (fun K hK => ?_)
        go_simp
        go_at_call 117
        refine (spMay_is x y false HMV.out _).mono ?_
        rintro e w3 ⟨rfl, hb3⟩
        have g3 := sBox_next hHeld hb3
        refine hK.out _ _ g3 (fun hHeld3 => ?_)
        clear hK g3 K hHeld hb3
        try simp only [Act.put, List.setIfInBounds_toArray, List.set_cons_zero, List.set_cons_succ]
        refine takeV 2 (some 14) ((.bool true)) rfl rfl (by kernel_rfl) (by kernel_rfl) (by kernel_rfl) (fun _ _ _ h => h) (by rfl) (by (intro _w _hSw; (try dsimp only at _hSw); go_simp)) (by assumption) ?_
        simp only [Act.put, List.setIfInBounds_toArray, List.set_cons_zero, List.set_cons_succ]
        refine takeV 3 (some 15) ((.bool true)) rfl rfl (by kernel_rfl) (by kernel_rfl) (by kernel_rfl) (fun _ _ _ h => h) (by rfl) (by (intro _w _hSw; (try dsimp only at _hSw); go_simp)) (by assumption) ?_
        simp only [Act.put, List.setIfInBounds_toArray, List.set_cons_zero, List.set_cons_succ]
        refine skipV 4 (some 16) rfl rfl (by kernel_rfl) (by kernel_rfl) (by kernel_rfl) (fun _ _ _ h => h) (by rfl) (by assumption) ?_
        simp only [Act.put, List.setIfInBounds_toArray, List.set_cons_zero, List.set_cons_succ]
        refine skipV 5 (some 17) rfl rfl (by kernel_rfl) (by kernel_rfl) (by kernel_rfl) (fun _ _ _ h => h) (by rfl) (by assumption) ?_
        simp only [Act.put, List.setIfInBounds_toArray, List.set_cons_zero, List.set_cons_succ]
        refine skipV 6 (some 18) rfl rfl (by kernel_rfl) (by kernel_rfl) (by kernel_rfl) (fun _ _ _ h => h) (by rfl) (by assumption) ?_
        simp only [Act.put, List.setIfInBounds_toArray, List.set_cons_zero, List.set_cons_succ]
        refine skipV 7 (some 19) rfl rfl (by kernel_rfl) (by kernel_rfl) (by kernel_rfl) (fun _ _ _ h => h) (by rfl) (by assumption) ?_
        simp only [Act.put, List.setIfInBounds_toArray, List.set_cons_zero, List.set_cons_succ]
        refine skipV 8 (some 20) rfl rfl (by kernel_rfl) (by kernel_rfl) (by kernel_rfl) (fun _ _ _ h => h) (by rfl) (by assumption) ?_
        simp only [Act.put, List.setIfInBounds_toArray, List.set_cons_zero, List.set_cons_succ]
        refine skipV 9 (some 21) rfl rfl (by kernel_rfl) (by kernel_rfl) (by kernel_rfl) (fun _ _ _ h => h) (by rfl) (by assumption) ?_
        simp only [Act.put, List.setIfInBounds_toArray, List.set_cons_zero, List.set_cons_succ]
        refine skipV 10 (some 22) rfl rfl (by kernel_rfl) (by kernel_rfl) (by kernel_rfl) (fun _ _ _ h => h) (by rfl) (by assumption) ?_
        simp only [Act.put, List.setIfInBounds_toArray, List.set_cons_zero, List.set_cons_succ]
        refine skipV 11 (some 23) rfl rfl (by kernel_rfl) (by kernel_rfl) (by kernel_rfl) (fun _ _ _ h => h) (by rfl) (by assumption) ?_
        simp only [Act.put, List.setIfInBounds_toArray, List.set_cons_zero, List.set_cons_succ]
        refine skipV 12 (some 24) rfl rfl (by kernel_rfl) (by kernel_rfl) (by kernel_rfl) (fun _ _ _ h => h) (by rfl) (by assumption) ?_
        simp only [Act.put, List.setIfInBounds_toArray, List.set_cons_zero, List.set_cons_succ]
        refine skipV 13 (some 25) rfl rfl (by kernel_rfl) (by kernel_rfl) (by kernel_rfl) (fun _ _ _ h => h) (by rfl) (by assumption) ?_
        simp only [Act.put, List.setIfInBounds_toArray, List.set_cons_zero, List.set_cons_succ]
        refine skipV 14 (some 26) rfl rfl (by kernel_rfl) (by kernel_rfl) (by kernel_rfl) (fun _ _ _ h => h) (by rfl) (by assumption) ?_
        simp only [Act.put, List.setIfInBounds_toArray, List.set_cons_zero, List.set_cons_succ]
        refine skipV 15 (some 27) rfl rfl (by kernel_rfl) (by kernel_rfl) (by kernel_rfl) (fun _ _ _ h => h) (by rfl) (by assumption) ?_
        simp only [Act.put, List.setIfInBounds_toArray, List.set_cons_zero, List.set_cons_succ]
        refine skipV 16 (some 28) rfl rfl (by kernel_rfl) (by kernel_rfl) (by kernel_rfl) (fun _ _ _ h => h) (by rfl) (by assumption) ?_
        simp only [Act.put, List.setIfInBounds_toArray, List.set_cons_zero, List.set_cons_succ]
        refine takeV 17 (some 29) ((.bool true)) rfl rfl (by kernel_rfl) (by kernel_rfl) (by kernel_rfl) (fun _ _ _ h => h) (by rfl) (by (intro _w _hSw; (try dsimp only at _hSw); go_simp)) (by assumption) ?_
        simp only [Act.put, List.setIfInBounds_toArray, List.set_cons_zero, List.set_cons_succ]
        refine wpAnyH_done (by kernel_rfl) ?_ _
        have HBN := Lib.hid hHeld3.2.2.2.1
        clear hHeld3
        go_wp2
        go_ret
        exact ⟨by rw [HN.out]; rfl, HBN.out⟩
end Go.Proofs.Ytkoknogefmfmnaa

/-
  CONTRACT: what adds a span to a set (adderTo's value).
-/
namespace Go.Proofs.Ytkoknogefmfmnaa
open Go.RowKit

theorem info92 : (Try.prog.info? 127).map (fun i => (i.zero, i.size, i.bytes)) = some (some (.agg #[.int .i64 0, .int .i64 0]), 2, 16) := by kernel_rfl
def cellsS (s : Sp) : List Value := [.int .i64 s.1, .int .i64 s.2]
theorem cellsS_one (s : Sp) : ∀ u ∈ cellsS s, u.oneCell' = true := by
  intro u hu
  simp [cellsS] at hu
  rcases hu with rfl | rfl <;> rfl
/-- a slice of spans in blocks from B on, which the call has to itself -/
def OwnS (W : World) (B : Nat) (v : Value) (l : List Sp) : Prop := W.ownsRow B 127 2 v l.length (l.flatMap cellsS)
theorem flatS {l : List Sp} {j i : Nat} (hi : i < 2) : (l.flatMap cellsS)[j * 2 + i]? = l[j]?.bind fun x => (cellsS x)[i]? := by
  induction l generalizing j with
  | nil => simp
  | cons x l ih =>
    cases j with
    | zero =>
      rw [List.flatMap_cons, List.getElem?_append_left (by show 0 * 2 + i < 2; omega)]
      simp
    | succ j =>
      have e : (j + 1) * 2 + i = 2 + (j * 2 + i) := by omega
      rw [List.flatMap_cons, e, List.getElem?_append_right (by show 2 ≤ _; omega), show (cellsS x).length = 2 from rfl, Nat.add_sub_cancel_left, ih]
      simp
theorem flatS_len (l : List Sp) : (l.flatMap cellsS).length = l.length * 2 := by
  induction l with
  | nil => rfl
  | cons x l ih => rw [List.flatMap_cons, List.length_append, ih, List.length_cons]; show 2 + _ = _; omega
theorem OwnS.sls {W : World} {B : Nat} {v : Value} {l : List Sp} (h : OwnS W B v l) : ∃ A c, v = .slice A l.length c ∧ SlS W W.heap.size A l ∧ l.length ≤ c ∧ c ≤ maxLen := by
  rcases h.2 with ⟨rfl, h0⟩ | ⟨g, cap, cur, rfl, _, hgb, h1, h2, _⟩
  · exact ⟨none, 0, by rw [h0], fun hl => absurd (List.length_eq_zero_iff.1 h0) hl, by omega, Nat.zero_le _⟩
  · refine ⟨_, _, rfl, fun _ => ⟨g, 0, rfl, (Array.getElem?_eq_some_iff.1 hgb).1, fun j p hp => ?_⟩, h1, h2⟩
    have hr : W.ownsRow B 127 2 (.slice (some ⟨g, 0, none⟩) l.length cap) l.length (l.flatMap cellsS) := h
    have hj : j < l.length := (List.getElem?_eq_some_iff.1 hp).1
    have hc : ∀ i, i < 2 → W.cell? ⟨g, j * 2 + i, none⟩ = (cellsS p)[i]? := fun i hi => by
      rw [hr.cellAt (j * 2 + i) (by omega), flatS hi, hp]; rfl
    rw [Nat.zero_add]
    exact ⟨hc 0 (by omega), hc 1 (by omega)⟩
theorem ownS_nil (W : World) (B : Nat) : OwnS W B (.slice none 0 0) [] := World.ownsRow_nil _ _ _ _
theorem ownS_snoc {W : World} {B : Nat} {v : Value} {l : List Sp} {s : Sp} (h : W.ownsRow B 127 2 v (l.length + 1) (l.flatMap cellsS ++ cellsS s)) : OwnS W B v (l ++ [s]) := by
  show World.ownsRow _ _ _ _ _ _ _
  simpa using h
theorem OwnS.kept {W W' : World} {B : Nat} {v : Value} {l : List Sp} {row : Option Nat} (h : OwnS W B v l) (hg : W.grownBy W' row) (hr : ∀ r, row = some r → ∃ o : Obj, W.heap[r]? = some o ∧ o.isCells = false) : OwnS W' B v l := by
  refine World.ownsRow.kept (row := row) h hg ?_
  rcases h.2 with ⟨rfl, _⟩ | ⟨g, cap, cur, rfl, _, hgb, _⟩
  · exact .inl rfl
  · refine .inr fun e => ?_
    obtain ⟨_, ho, hc⟩ := hr g (by rw [← e]; rfl)
    rw [hgb] at ho
    cases ho
    simp [Obj.isCells] at hc
theorem OwnS.alloc {W : World} {B : Nat} {v : Value} {l : List Sp} (h : OwnS W B v l) (o : Obj) : OwnS (W.alloc o) B v l := World.ownsRow.alloc h o
theorem OwnS.next {W W' : World} {B : Nat} {v : Value} {l : List Sp} (h : OwnS W B v l) (hb : Below W.heap.size W W') : OwnS W' B v l := h.kept (row := none) ⟨hb.os, hb.tape, hb.output, hb.size, fun k hk _ => hb.block k hk⟩ (fun r e => by cases e)

/-- a step that turns a box and a row alone -/
structure Adds (W W' : World) (Bs : Nat) (r : Option Nat) : Prop where
  os : W'.os = W.os
  tape : W'.tape = W.tape
  output : W'.output = W.output
  size : W.heap.size ≤ W'.heap.size
  block : ∀ k, k < W.heap.size → k ≠ Bs → some k ≠ r → W'.heap[k]? = W.heap[k]?
theorem Adds.boxed {W W' : World} {Bs b base n : Nat} {t e : TypeId} {u v : Value} {xs : List Value} {size : Nat} (h : Adds W W' Bs v.ownBlock) (hb : Boxed W b t u) (hne : b ≠ Bs) (hte : t ≠ e) (ho : W.ownsRow base e size v n xs) : Boxed W' b t u :=
  (h.block b hb.lt hne (hb.not_row hte ho)).trans hb
theorem Adds.below {W W' : World} {Bs n0 n : Nat} {e : TypeId} {v : Value} {xs : List Value} {size : Nat} (h : Adds W W' Bs v.ownBlock) (hB : n0 ≤ Bs) (ho : W.ownsRow n0 e size v n xs) (hn : n0 ≤ W.heap.size) : Below n0 W W' :=
  ⟨h.os, h.tape, h.output, h.size, fun k hk => h.block k (by omega) (by omega) (fun e => by have := (ho.lt k e.symm).1; omega)⟩
theorem Adds.others {W W' : World} {Bs n0 n : Nat} {t e : TypeId} {u v : Value} {xs : List Value} {size : Nat} (h : Adds W W' Bs v.ownBlock) (hb : Boxed W Bs t u) (ho : W.ownsRow n0 e size v n xs) : KeepsOthers W W' :=
  ⟨h.size, fun k o hk hc => by
    have hlt := (Array.getElem?_eq_some_iff.1 hk).1
    refine (h.block k hlt (fun ek => ?_) (fun ek => ?_)).trans hk
    · subst ek
      rw [show W.heap[k]? = _ from hb] at hk
      cases hk
      cases hc
    · rcases ho.2 with ⟨rfl, _⟩ | ⟨g, cap, cur, rfl, _, hgb, _⟩
      · simp [Value.ownBlock] at ek
      · obtain rfl : k = g := by simpa [Value.ownBlock] using ek
        rw [hgb] at hk
        cases hk
        cases hc⟩

/-- What adding a span leaves. -/
def AddEnd (W : World) (n0 Bs : Nat) (r : Option Nat) (l : List Sp) (e : Ending) (W' : World) : Prop :=
  e = .returned (.tuple #[]) ∧ Adds W W' Bs r ∧ ∃ v', Boxed W' Bs 128 v' ∧ OwnS W' n0 v' l

theorem drewN_boxed {W : World} {b : Nat} {t : TypeId} {v : Value} (h : Boxed W b t v) (n : Nat) : Boxed (W.drewN n) b t v := h
theorem cell_litS (W : World) (cs : Array Value) (t : TypeId) (j : Nat) (u : Value) (h : cs.toList[j]? = some u) : (W.alloc (.cells cs t)).cell? ((⟨W.heap.size, 0, none⟩ : Addr).add j) = some u := cell_lit W cs t j u h

theorem Adds.append {W W5 w4 : World} {Bs : Nat} {r : Option Nat} {o : Obj} (h : Adds W W5 Bs r) (hs : W5.heap.size = W.heap.size + 1) (hg : (W5.alloc o).drew.grownBy w4 r) (u : Value) : Adds W (w4.setCell ⟨Bs, 0, none⟩ u) Bs r :=
  ⟨hg.os.trans h.os, hg.tape.trans h.tape, hg.output.trans h.output, by
    have h1 : (W5.alloc o).heap.size ≤ w4.heap.size := hg.size
    have h2 := (KeepsWalks.setCell w4 ⟨Bs, 0, none⟩ u).size
    rw [World.size_alloc] at h1
    omega, fun k hk h1 h2 => by
    refine (Below.heap_setCell w4 ⟨Bs, 0, none⟩ u k h1).trans ?_
    refine (hg.block k (by show k < (W5.alloc o).heap.size; rw [World.size_alloc]; omega) h2).trans ?_
    exact (Below.heap_alloc W5 o k (by omega)).trans (h.block k hk h1 h2)⟩
theorem OwnS.row {W : World} {B n : Nat} {v : Value} {l : List Sp} (h : OwnS W B v l) (hn : l.length = n) : W.ownsRow B 127 2 v n (l.flatMap cellsS) := by
  subst hn; exact h
theorem ownS_snoc' {W : World} {B n : Nat} {v : Value} {l : List Sp} {s : Sp} (hn : l.length = n) (h : W.ownsRow B 127 2 v (n + 1) (l.flatMap cellsS ++ cellsS s)) : OwnS W B v (l ++ [s]) := by
  subst hn; exact ownS_snoc h
theorem boxed_ne {W : World} {b b' : Nat} {t t' : TypeId} {u u' : Value} (h : Boxed W b t u) (h' : Boxed W b' t' u') (ht : t ≠ t') : b ≠ b' := by
  rintro rfl
  have := (show W.heap[b]? = _ from h).symm.trans h'
  simp at this
  exact ht this.2
theorem Adds.store {W W5 w4 : World} {Bs : Nat} {r : Option Nat} (h : Adds W W5 Bs r) (hs : W5.heap.size = W.heap.size + 1) (hg : W5.drew.grownBy w4 r) : Adds W w4 Bs r :=
  ⟨hg.os.trans h.os, hg.tape.trans h.tape, hg.output.trans h.output, by
    have h1 : W5.heap.size ≤ w4.heap.size := hg.size
    omega, fun k hk h1 h2 => (hg.block k (by show k < W5.heap.size; omega) h2).trans (h.block k hk h1 h2)⟩
theorem flatS_set {r : List Sp} {p : Sp} (u : Int) : ((r ++ [p]).flatMap cellsS).set (r.length * 2 + 1) (.int .i64 u) = (r ++ [(p.1, u)]).flatMap cellsS := by
  rw [List.flatMap_append, List.flatMap_append, List.set_append, if_neg (by rw [flatS_len]; omega), flatS_len, Nat.add_sub_cancel_left]
  rfl
/-- what the region that joins reads -/
def SJoin (g k bx : Nat) (q y : Int) (W : World) : Prop := W.cell? ⟨g, k * 2 + 1, none⟩ = some (.int .i64 q) ∧ W.cell? ⟨bx, 1, none⟩ = some (.int .i64 y)

end Go.Proofs.Ytkoknogefmfmnaa
