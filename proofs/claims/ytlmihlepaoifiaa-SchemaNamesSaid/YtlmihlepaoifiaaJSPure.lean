/-
  PLAIN FACTS on sets of instants: what a set is, what it has, that it is told in one way.
-/
import Derived.Test.YtlmihlepaoifiaaJOWords
namespace Go.Proofs.Ytlmihlepaoifiaa

/-- a span: from, to -/
abbrev Sp := Int × Int
def maxT : Int := 9223372036854775807
def minT : Int := -9223372036854775808
/-- spans that are a set -/
def SetL (l : List Sp) : Prop := l.Pairwise (fun p q => p.2 < q.1) ∧ ∀ s ∈ l, s.1 < s.2
instance (l : List Sp) : Decidable (SetL l) := by unfold SetL; infer_instance
/-- an instant of some spans -/
def Inn (l : List Sp) (t : Int) : Prop := ∃ s ∈ l, s.1 ≤ t ∧ t < s.2
instance (l : List Sp) (t : Int) : Decidable (Inn l t) := by unfold Inn; infer_instance
def setB (l : List Sp) : Bool := decide (SetL l)
def innB (l : List Sp) (t : Int) : Bool := decide (Inn l t)
/-- what int64 holds -/
def SpOk (s : Sp) : Prop := (minT ≤ s.1 ∧ s.1 ≤ maxT) ∧ minT ≤ s.2 ∧ s.2 ≤ maxT

theorem setL_nil : SetL [] := ⟨List.Pairwise.nil, fun _ h => by cases h⟩
theorem setL_cons {s : Sp} {l : List Sp} : SetL (s :: l) ↔ s.1 < s.2 ∧ (∀ q ∈ l, s.2 < q.1) ∧ SetL l := by
  unfold SetL
  rw [List.pairwise_cons]
  constructor
  · intro ⟨⟨h1, h2⟩, h3⟩
    exact ⟨h3 s (by simp), h1, h2, fun q hq => h3 q (by simp [hq])⟩
  · intro ⟨h1, h2, h3, h4⟩
    exact ⟨⟨h2, h3⟩, fun q hq => by
      rcases List.mem_cons.1 hq with rfl | hq
      · exact h1
      · exact h4 q hq⟩
theorem setL_snoc {s : Sp} {l : List Sp} : SetL (l ++ [s]) ↔ s.1 < s.2 ∧ (∀ q ∈ l, q.2 < s.1) ∧ SetL l := by
  unfold SetL
  rw [List.pairwise_append]
  constructor
  · intro ⟨⟨h1, _, h2⟩, h3⟩
    exact ⟨h3 s (by simp), fun q hq => h2 q hq s (by simp), h1, fun q hq => h3 q (by simp [hq])⟩
  · intro ⟨h1, h2, h3, h4⟩
    exact ⟨⟨h3, List.pairwise_singleton _ _, fun q hq r hr => by rw [List.mem_singleton.1 hr]; exact h2 q hq⟩, fun q hq => by
      rcases List.mem_append.1 hq with hq | hq
      · exact h4 q hq
      · rw [List.mem_singleton.1 hq]; exact h1⟩
theorem inn_nil (t : Int) : ¬ Inn [] t := fun ⟨_, h, _⟩ => by cases h
theorem inn_cons {s : Sp} {l : List Sp} {t : Int} : Inn (s :: l) t ↔ (s.1 ≤ t ∧ t < s.2) ∨ Inn l t := by
  unfold Inn
  simp [List.mem_cons, or_and_right, exists_or]
theorem inn_append {a b : List Sp} {t : Int} : Inn (a ++ b) t ↔ Inn a t ∨ Inn b t := by
  unfold Inn
  simp only [List.mem_append, or_and_right, exists_or]
theorem inn_one {s : Sp} {t : Int} : Inn [s] t ↔ s.1 ≤ t ∧ t < s.2 := by rw [inn_cons]; simp [inn_nil]
/-- behind a set's first span nothing is until a gap has passed -/
theorem inn_gap {s : Sp} {l : List Sp} (h : SetL (s :: l)) {t : Int} (ht : t ≤ s.2) : ¬ Inn l t := fun ⟨q, hq, h1, _⟩ => by
  have := (setL_cons.1 h).2.1 q hq
  omega
theorem inn_first {s : Sp} {l : List Sp} (h : SetL (s :: l)) {t : Int} (ht : t < s.1) : ¬ Inn (s :: l) t := fun hi => by
  have h0 := (setL_cons.1 h).1
  rcases inn_cons.1 hi with h1 | h1
  · omega
  · exact inn_gap h (t := t) (by omega) h1

/-- A set is told in one way. -/
theorem set_ext : ∀ {a b : List Sp}, SetL a → SetL b → (∀ t, Inn a t ↔ Inn b t) → a = b
  | [], [], _, _, _ => rfl
  | [], s :: b, _, hb, h => absurd ((h s.1).2 (inn_cons.2 (.inl ⟨Int.le_refl _, (setL_cons.1 hb).1⟩))) (inn_nil _)
  | s :: a, [], ha, _, h => absurd ((h s.1).1 (inn_cons.2 (.inl ⟨Int.le_refl _, (setL_cons.1 ha).1⟩))) (inn_nil _)
  | s :: a, r :: b, ha, hb, h => by
    have h1 := (setL_cons.1 ha).1
    have h2 := (setL_cons.1 hb).1
    have e1 : s.1 = r.1 := by
      have g1 := (h s.1).1 (inn_cons.2 (.inl ⟨Int.le_refl _, h1⟩))
      have g2 := (h r.1).2 (inn_cons.2 (.inl ⟨Int.le_refl _, h2⟩))
      have k1 : ¬ s.1 < r.1 := fun hh => inn_first hb hh g1
      have k2 : ¬ r.1 < s.1 := fun hh => inn_first ha hh g2
      omega
    have e2 : s.2 = r.2 := by
      have k1 : ¬ s.2 < r.2 := fun hh => by
        have g := (h s.2).2 (inn_cons.2 (.inl ⟨by omega, hh⟩))
        rcases inn_cons.1 g with g | g
        · omega
        · exact inn_gap ha (Int.le_refl _) g
      have k2 : ¬ r.2 < s.2 := fun hh => by
        have g := (h r.2).1 (inn_cons.2 (.inl ⟨by omega, hh⟩))
        rcases inn_cons.1 g with g | g
        · omega
        · exact inn_gap hb (Int.le_refl _) g
      omega
    have e : s = r := Prod.ext e1 e2
    subst e
    rw [set_ext (setL_cons.1 ha).2.2 (setL_cons.1 hb).2.2 (fun t => ?_)]
    by_cases ht : t ≤ s.2
    · exact ⟨fun g => absurd g (inn_gap ha ht), fun g => absurd g (inn_gap hb ht)⟩
    · have g := h t
      rw [inn_cons, inn_cons] at g
      constructor
      · intro g1
        rcases g.1 (.inr g1) with g2 | g2
        · omega
        · exact g2
      · intro g1
        rcases g.2 (.inr g1) with g2 | g2
        · omega
        · exact g2

/-- what isSet asks at a place -/
def OkAt (l : List Sp) (i : Nat) : Prop := ∀ s, l[i]? = some s → s.1 < s.2 ∧ ∀ p, 0 < i → l[i - 1]? = some p → p.2 < s.1
theorem setL_of_at : ∀ {l : List Sp}, (∀ i, i < l.length → OkAt l i) → SetL l
  | [], _ => setL_nil
  | [s], h => by
    have := h 0 (by simp) s rfl
    exact setL_cons.2 ⟨this.1, fun _ hq => (by cases hq), setL_nil⟩
  | s :: r :: l, h => by
    have h0 := h 0 (by simp) s rfl
    have h1 := h 1 (by simp) r rfl
    have hr : SetL (r :: l) := setL_of_at fun i hi => by
      intro x hx
      have g := h (i + 1) (by simp at hi ⊢; omega) x (by simpa using hx)
      refine ⟨g.1, fun p hp hpx => g.2 p (by omega) ?_⟩
      obtain ⟨j, rfl⟩ : ∃ j, i = j + 1 := ⟨i - 1, by omega⟩
      simpa using hpx
    refine setL_cons.2 ⟨h0.1, fun q hq => ?_, hr⟩
    have k := h1.2 s (by omega) rfl
    rcases List.mem_cons.1 hq with rfl | hq
    · exact k
    · have k1 := (setL_cons.1 hr).2.1 q hq
      have k2 := (setL_cons.1 hr).1
      omega
theorem setL_at {l : List Sp} (h : SetL l) (i : Nat) : OkAt l i := by
  refine fun s hs => ⟨h.2 s (List.mem_of_getElem? hs), fun p hi hp => ?_⟩
  obtain ⟨hi1, e1⟩ := List.getElem?_eq_some_iff.1 hs
  obtain ⟨hi2, e2⟩ := List.getElem?_eq_some_iff.1 hp
  have := List.pairwise_iff_getElem.1 h.1 (i - 1) i hi2 hi1 (by omega)
  rw [e1, e2] at this
  exact this
theorem setB_all {l : List Sp} (h : ∀ i, i < l.length → OkAt l i) : setB l = true := decide_eq_true (setL_of_at h)
theorem setB_no {l : List Sp} {i : Nat} (h : ¬ OkAt l i) : setB l = false := decide_eq_false fun k => h (setL_at k i)
theorem okAt_first {l : List Sp} {s : Sp} (hs : l[0]? = some s) : OkAt l 0 ↔ s.1 < s.2 := by
  unfold OkAt
  rw [hs]
  simp
theorem okAt_next {l : List Sp} {i : Nat} {s p : Sp} (hi : 0 < i) (hs : l[i]? = some s) (hp : l[i - 1]? = some p) : OkAt l i ↔ s.1 < s.2 ∧ p.2 < s.1 := by
  refine ⟨fun h => ⟨(h s hs).1, (h s hs).2 p hi hp⟩, fun h x hx => ?_⟩
  rw [hs] at hx
  cases hx
  refine ⟨h.1, fun q _ hq => ?_⟩
  rw [hp] at hq
  cases hq
  exact h.2

/-! ### what a closure adds -/
def addL (l : List Sp) (s : Sp) : List Sp := match l.getLast? with
  | none => [s]
  | some p => if s.1 ≤ p.2 then l.dropLast ++ [(p.1, max p.2 s.2)] else l ++ [s]
theorem addL_nil (s : Sp) : addL [] s = [s] := rfl
theorem addL_snoc (l : List Sp) (p s : Sp) : addL (l ++ [p]) s = if s.1 ≤ p.2 then l ++ [(p.1, max p.2 s.2)] else l ++ [p] ++ [s] := by
  unfold addL
  rw [List.getLast?_append]
  simp
/-- Adding a span that begins behind all others' beginnings. -/
theorem addL_set {l : List Sp} {s : Sp} (h : SetL l) (hs : s.1 < s.2) (hf : ∀ q ∈ l, q.1 ≤ s.1) : SetL (addL l s) ∧ (∀ t, Inn (addL l s) t ↔ Inn l t ∨ (s.1 ≤ t ∧ t < s.2)) ∧ ∀ q ∈ addL l s, q.1 ≤ s.1 := by
  rcases List.eq_nil_or_concat l with rfl | ⟨r, p, rfl⟩
  · rw [addL_nil]
    refine ⟨setL_cons.2 ⟨hs, fun _ h => (by cases h), setL_nil⟩, fun t => ?_, fun q hq => ?_⟩
    · rw [inn_one]; simp [inn_nil]
    · rw [List.mem_singleton.1 hq]; exact Int.le_refl _
  · rw [List.concat_eq_append] at h hf ⊢
    rw [addL_snoc]
    have hp := hf p (by simp)
    obtain ⟨h1, h2, h3⟩ := setL_snoc.1 h
    split
    · rename_i hle
      refine ⟨setL_snoc.2 ⟨by show p.1 < max p.2 s.2; omega, fun q hq => h2 q hq, h3⟩, fun t => ?_, fun q hq => ?_⟩
      · rw [inn_append, inn_append, inn_one, inn_one]
        show Inn r t ∨ (p.1 ≤ t ∧ t < max p.2 s.2) ↔ _
        constructor
        · rintro (g | g)
          · exact .inl (.inl g)
          · by_cases k : t < p.2
            · exact .inl (.inr ⟨g.1, k⟩)
            · exact .inr (by omega)
        · rintro ((g | g) | g)
          · exact .inl g
          · exact .inr (by omega)
          · exact .inr (by omega)
      · rcases List.mem_append.1 hq with hq | hq
        · exact hf q (by simp [hq])
        · rw [List.mem_singleton.1 hq]; exact hp
    · rename_i hle
      refine ⟨setL_snoc.2 ⟨hs, fun q hq => ?_, h⟩, fun t => ?_, fun q hq => ?_⟩
      · rcases List.mem_append.1 hq with hq | hq
        · have := h2 q hq; omega
        · rw [List.mem_singleton.1 hq]; omega
      · rw [inn_append, inn_one]
      · rcases List.mem_append.1 hq with hq | hq
        · exact hf q hq
        · rw [List.mem_singleton.1 hq]; exact Int.le_refl _
theorem addL_all {P : Sp → Prop} {l : List Sp} {s : Sp} (h : ∀ q ∈ l, P q) (hs : P s) (hm : ∀ p : Sp, P p → P (p.1, max p.2 s.2)) : ∀ q ∈ addL l s, P q := by
  rcases List.eq_nil_or_concat l with rfl | ⟨r, p, rfl⟩
  · intro q hq; rw [addL_nil] at hq; rw [List.mem_singleton.1 hq]; exact hs
  · rw [List.concat_eq_append] at h ⊢
    rw [addL_snoc]
    intro q hq
    split at hq
    · rcases List.mem_append.1 hq with hq | hq
      · exact h q (by simp [hq])
      · rw [List.mem_singleton.1 hq]; exact hm p (h p (by simp))
    · rcases List.mem_append.1 hq with hq | hq
      · exact h q hq
      · rw [List.mem_singleton.1 hq]; exact hs
end Go.Proofs.Ytlmihlepaoifiaa
