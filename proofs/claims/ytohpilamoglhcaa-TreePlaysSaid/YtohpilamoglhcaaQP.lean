/-
  PLAIN FUNCTIONS (no program): search trees, and the rising lists of pairs that they stand for.
-/
import Derived.Test.YtohpilamoglhcaaPure
namespace Go.Proofs.Ytohpilamoglhcaa
open Go.RowKit

abbrev By := List UInt8
abbrev Pr := By × By
/-- a tree: each node with the block that it lies in -/
inductive Tr
  | nil
  | nd (b : Nat) (p : Pr) (l r : Tr)
def Tr.list : Tr → List Pr
  | .nil => []
  | .nd _ p l r => l.list ++ p :: r.list
def Tr.cnt : Tr → Nat
  | .nil => 0
  | .nd _ _ l r => l.cnt + 1 + r.cnt
def Tr.ptr : Tr → Value
  | .nil => .pointer none
  | .nd b _ _ _ => .pointer (some ⟨b, 0, none⟩)
theorem Tr.len : ∀ t : Tr, t.list.length = t.cnt
  | .nil => rfl
  | .nd _ _ l r => by
    have := l.len
    have := r.len
    simp only [Tr.list, Tr.cnt, List.length_append, List.length_cons]
    omega
theorem Tr.ptr_pointer (t : Tr) : ∃ u, t.ptr = .pointer u := by cases t <;> exact ⟨_, rfl⟩

/-! ### how keys stand -/
theorem qo_zero : ∀ (l r : By), ordL l r = 0 ↔ l = r
  | [], [] => by simp [ordL]
  | [], _ :: _ => by simp [ordL]
  | _ :: _, [] => by simp [ordL]
  | x :: l, y :: r => by
    have ih := qo_zero l r
    simp only [ordL]
    by_cases h1 : x.toNat < y.toNat
    · have : x ≠ y := fun e => by subst e; omega
      simp [h1, this]
    · by_cases h2 : y.toNat < x.toNat
      · have : x ≠ y := fun e => by subst e; omega
        simp [h1, h2, this]
      · obtain rfl := u8_eq h1 h2
        simp [ih]
theorem qo_swap : ∀ (l r : By), ordL r l = - ordL l r
  | [], [] => by simp [ordL]
  | [], _ :: _ => by simp [ordL]
  | _ :: _, [] => by simp [ordL]
  | x :: l, y :: r => by
    have ih := qo_swap l r
    simp only [ordL]
    by_cases h1 : x.toNat < y.toNat
    · have : ¬ y.toNat < x.toNat := by omega
      simp [h1, this]
    · by_cases h2 : y.toNat < x.toNat
      · simp [h1, h2]
      · simp [h1, h2, ih]
theorem qo_trans : ∀ (l r t : By), ordL l r = -1 → ordL r t = -1 → ordL l t = -1
  | [], [], _, h, _ => by simp [ordL] at h
  | [], _ :: _, [], _, h => by simp [ordL] at h
  | [], _ :: _, _ :: _, _, _ => by simp [ordL]
  | _ :: _, [], _, h, _ => by simp [ordL] at h
  | _ :: _, _ :: _, [], _, h => by simp [ordL] at h
  | x :: l, y :: r, z :: t, h, k => by
    have ih := qo_trans l r t
    simp only [ordL] at h k ⊢
    by_cases h1 : x.toNat < y.toNat
    · by_cases k1 : y.toNat < z.toNat
      · rw [if_pos (by omega)]
      · by_cases k2 : z.toNat < y.toNat
        · rw [if_neg k1, if_pos k2] at k; omega
        · rw [if_pos (by omega)]
    · by_cases h2 : y.toNat < x.toNat
      · rw [if_neg h1, if_pos h2] at h; omega
      · rw [if_neg h1, if_neg h2] at h
        by_cases k1 : y.toNat < z.toNat
        · rw [if_pos (by omega)]
        · by_cases k2 : z.toNat < y.toNat
          · rw [if_neg k1, if_pos k2] at k; omega
          · rw [if_neg k1, if_neg k2] at k
            rw [if_neg (by omega), if_neg (by omega)]
            exact ih h k
theorem qo_three (l r : By) : ordL l r = -1 ∨ l = r ∨ ordL l r = 1 := by
  rcases ordL_range l r with h | h | h
  · exact .inl h
  · exact .inr (.inl ((qo_zero l r).1 h))
  · exact .inr (.inr h)
theorem qo_one {l r : By} (h : ordL l r = 1) : ordL r l = -1 := by rw [qo_swap, h]
theorem qo_mone {l r : By} (h : ordL l r = -1) : ordL r l = 1 := by rw [qo_swap, h]; rfl
theorem qo_ne {l r : By} (h : ordL l r = -1) : l ≠ r := fun e => by rw [(qo_zero l r).2 e] at h; omega
theorem qo_irr (l : By) : ¬ ordL l l = -1 := fun h => qo_ne h rfl

/-! ### rising lists -/
/-- does a pair stand ahead of another one? -/
def Lt (p q : Pr) : Prop := ordL p.1 q.1 = -1
instance (p q : Pr) : Decidable (Lt p q) := inferInstanceAs (Decidable (_ = _))
def Rise (l : List Pr) : Prop := l.Pairwise Lt
def putL (l : List Pr) (p : Pr) : List Pr := l.filter (fun q => decide (Lt q p)) ++ p :: l.filter (fun q => decide (Lt p q))
def cutL (l : List Pr) (k : By) : List Pr := l.filter (fun q => decide (q.1 ≠ k))
def rankL (l : List Pr) (k : By) : Nat := l.countP (fun q => decide (ordL q.1 k = -1))
def getL (l : List Pr) (k : By) : Option By := (l.find? (fun q => decide (q.1 = k))).map (·.2)

theorem rise_nd {l r : List Pr} {p : Pr} : Rise (l ++ p :: r) ↔ Rise l ∧ Rise r ∧ (∀ q ∈ l, Lt q p) ∧ (∀ q ∈ r, Lt p q) ∧ ∀ q ∈ l, ∀ q' ∈ r, Lt q q' := by
  unfold Rise
  rw [List.pairwise_append, List.pairwise_cons]
  constructor
  · rintro ⟨h1, ⟨h2, h3⟩, h4⟩
    exact ⟨h1, h3, fun q hq => h4 q hq p (by simp), h2, fun q hq q' hq' => h4 q hq q' (by simp [hq'])⟩
  · rintro ⟨h1, h2, h3, h4, h5⟩
    refine ⟨h1, ⟨h4, h2⟩, fun q hq q' hq' => ?_⟩
    rcases List.mem_cons.1 hq' with rfl | h
    · exact h3 q hq
    · exact h5 q hq q' h
theorem filter_all {l : List Pr} {f : Pr → Bool} (h : ∀ q ∈ l, f q = true) : l.filter f = l := List.filter_eq_self.2 h
theorem filter_no {l : List Pr} {f : Pr → Bool} (h : ∀ q ∈ l, f q = false) : l.filter f = [] := by
  rw [List.filter_eq_nil_iff]
  intro q hq
  simp [h q hq]
theorem lt_trans {p q r : Pr} (h : Lt p q) (k : Lt q r) : Lt p r := qo_trans _ _ _ h k
theorem lt_not {p q : Pr} (h : Lt p q) : ¬ Lt q p := fun k => qo_irr _ (qo_trans _ _ _ h k)
theorem put_left {l r : List Pr} {q p : Pr} (h : Rise (l ++ q :: r)) (hp : Lt p q) : putL (l ++ q :: r) p = putL l p ++ q :: r := by
  obtain ⟨_, _, _, h4, _⟩ := rise_nd.1 h
  unfold putL
  rw [List.filter_append, List.filter_append, List.filter_cons_of_neg (by simpa using lt_not hp), List.filter_cons_of_pos (by simpa using hp),
    filter_no (l := r) (fun x hx => by simpa using lt_not (lt_trans hp (h4 x hx))), filter_all (l := r) (fun x hx => by simpa using lt_trans hp (h4 x hx))]
  simp
theorem put_right {l r : List Pr} {q p : Pr} (h : Rise (l ++ q :: r)) (hp : Lt q p) : putL (l ++ q :: r) p = l ++ q :: putL r p := by
  obtain ⟨_, _, h3, _, _⟩ := rise_nd.1 h
  unfold putL
  rw [List.filter_append, List.filter_append, List.filter_cons_of_pos (by simpa using hp), List.filter_cons_of_neg (by simpa using lt_not hp),
    filter_all (l := l) (fun x hx => by simpa using lt_trans (h3 x hx) hp), filter_no (l := l) (fun x hx => by simpa using lt_not (lt_trans (h3 x hx) hp))]
  simp
theorem put_here {l r : List Pr} {q p : Pr} (h : Rise (l ++ q :: r)) (hp : p.1 = q.1) : putL (l ++ q :: r) p = l ++ p :: r := by
  obtain ⟨_, _, h3, h4, _⟩ := rise_nd.1 h
  have e1 : ∀ x : Pr, Lt x p ↔ Lt x q := fun x => by unfold Lt; rw [hp]
  have e2 : ∀ x : Pr, Lt p x ↔ Lt q x := fun x => by unfold Lt; rw [hp]
  unfold putL
  simp only [e1, e2]
  rw [List.filter_append, List.filter_append, List.filter_cons_of_neg (by simpa using fun h => lt_not h h), List.filter_cons_of_neg (by simpa using fun h => lt_not h h),
    filter_all (l := l) (fun x hx => by simpa using h3 x hx), filter_no (l := l) (fun x hx => by simpa using lt_not (h3 x hx)),
    filter_no (l := r) (fun x hx => by simpa using lt_not (h4 x hx)), filter_all (l := r) (fun x hx => by simpa using h4 x hx)]
  simp
theorem cut_left {l r : List Pr} {q : Pr} {k : By} (h : Rise (l ++ q :: r)) (hp : ordL k q.1 = -1) : cutL (l ++ q :: r) k = cutL l k ++ q :: r := by
  obtain ⟨_, _, _, h4, _⟩ := rise_nd.1 h
  unfold cutL
  rw [List.filter_append, List.filter_cons_of_pos (by simpa using (qo_ne hp).symm), filter_all (l := r) (fun x hx => by simpa using (qo_ne (qo_trans _ _ _ hp (h4 x hx))).symm)]
theorem cut_right {l r : List Pr} {q : Pr} {k : By} (h : Rise (l ++ q :: r)) (hp : ordL q.1 k = -1) : cutL (l ++ q :: r) k = l ++ q :: cutL r k := by
  obtain ⟨_, _, h3, _, _⟩ := rise_nd.1 h
  unfold cutL
  rw [List.filter_append, List.filter_cons_of_pos (by simpa using qo_ne hp), filter_all (l := l) (fun x hx => by simpa using qo_ne (qo_trans _ _ _ (h3 x hx) hp))]
theorem cut_here {l r : List Pr} {q : Pr} {k : By} (h : Rise (l ++ q :: r)) (hp : k = q.1) : cutL (l ++ q :: r) k = l ++ r := by
  obtain ⟨_, _, h3, h4, _⟩ := rise_nd.1 h
  subst hp
  unfold cutL
  rw [List.filter_append, List.filter_cons_of_neg (by simp), filter_all (l := l) (fun x hx => by simpa using qo_ne (h3 x hx)), filter_all (l := r) (fun x hx => by simpa using (qo_ne (h4 x hx)).symm)]
theorem rise_cut {l : List Pr} (h : Rise l) (k : By) : Rise (cutL l k) := List.Pairwise.filter _ h
theorem rise_put {l : List Pr} (h : Rise l) (p : Pr) : Rise (putL l p) := by
  refine rise_nd.2 ⟨List.Pairwise.filter _ h, List.Pairwise.filter _ h, fun q hq => ?_, fun q hq => ?_, fun q hq q' hq' => ?_⟩
  · simpa using (List.mem_filter.1 hq).2
  · simpa using (List.mem_filter.1 hq).2
  · have h1 : Lt q p := by simpa using (List.mem_filter.1 hq).2
    have h2 : Lt p q' := by simpa using (List.mem_filter.1 hq').2
    exact lt_trans h1 h2
theorem mem_put {l : List Pr} {p q : Pr} : q ∈ putL l p ↔ q = p ∨ q ∈ l ∧ q.1 ≠ p.1 := by
  unfold putL
  simp only [List.mem_append, List.mem_filter, List.mem_cons, decide_eq_true_eq]
  constructor
  · rintro (⟨h, k⟩ | h | ⟨h, k⟩)
    · exact .inr ⟨h, qo_ne k⟩
    · exact .inl h
    · exact .inr ⟨h, (qo_ne k).symm⟩
  · rintro (h | ⟨h, k⟩)
    · exact .inr (.inl h)
    · rcases qo_three q.1 p.1 with e | e | e
      · exact .inl ⟨h, e⟩
      · exact absurd e k
      · exact .inr (.inr ⟨h, qo_one e⟩)
theorem mem_cut {l : List Pr} {k : By} {q : Pr} : q ∈ cutL l k ↔ q ∈ l ∧ q.1 ≠ k := by
  unfold cutL
  simp
/-- rising lists with the same pairs are one -/
theorem rise_ext : ∀ {l r : List Pr}, Rise l → Rise r → (∀ q, q ∈ l ↔ q ∈ r) → l = r
  | [], [], _, _, _ => rfl
  | [], q :: _, _, _, h => by have := (h q).2 (by simp); cases this
  | q :: _, [], _, _, h => by have := (h q).1 (by simp); cases this
  | p :: l, q :: r, h1, h2, h => by
    have a1 := List.pairwise_cons.1 h1
    have a2 := List.pairwise_cons.1 h2
    have e : p = q := by
      rcases List.mem_cons.1 ((h p).1 (by simp)) with e | hp
      · exact e
      · rcases List.mem_cons.1 ((h q).2 (by simp)) with e | hq
        · exact e.symm
        · exact absurd (a1.1 q hq) (lt_not (a2.1 p hp))
    subst e
    congr 1
    refine rise_ext a1.2 a2.2 (fun x => ⟨fun hx => ?_, fun hx => ?_⟩)
    · rcases List.mem_cons.1 ((h x).1 (by simp [hx])) with e | k
      · subst e; exact absurd (a1.1 x hx) (lt_not (a1.1 x hx))
      · exact k
    · rcases List.mem_cons.1 ((h x).2 (by simp [hx])) with e | k
      · subst e; exact absurd (a2.1 x hx) (lt_not (a2.1 x hx))
      · exact k
theorem rise_key {l : List Pr} (h : Rise l) {p q : Pr} (hp : p ∈ l) (hq : q ∈ l) (e : p.1 = q.1) : p = q := by
  induction l with
  | nil => cases hp
  | cons x r ih =>
    have a := List.pairwise_cons.1 h
    rcases List.mem_cons.1 hp with h1 | h1
    · rcases List.mem_cons.1 hq with h2 | h2
      · rw [h1, h2]
      · subst h1; exact absurd e (qo_ne (a.1 q h2))
    · rcases List.mem_cons.1 hq with h2 | h2
      · subst h2; exact absurd e.symm (qo_ne (a.1 p h1))
      · exact ih a.2 h1 h2
theorem getL_some {l : List Pr} (h : Rise l) {k v : By} : getL l k = some v ↔ (k, v) ∈ l := by
  unfold getL
  constructor
  · intro hg
    obtain ⟨q, hq, rfl⟩ := Option.map_eq_some_iff.1 hg
    have h1 := List.mem_of_find?_eq_some hq
    have h2 := List.find?_some hq
    simp at h2
    subst h2
    exact h1
  · intro hm
    cases hf : l.find? (fun q => decide (q.1 = k)) with
    | none =>
      have := List.find?_eq_none.1 hf _ hm
      simp at this
    | some q =>
      have h1 := List.mem_of_find?_eq_some hf
      have h2 := List.find?_some hf
      simp at h2
      rw [rise_key h h1 hm h2]
      rfl
theorem getL_none {l : List Pr} {k : By} : getL l k = none ↔ ∀ q ∈ l, q.1 ≠ k := by
  unfold getL
  rw [Option.map_eq_none_iff, List.find?_eq_none]
  simp

/-! ### the ways down -/
def findT : Tr → By → Tr
  | .nil, _ => .nil
  | .nd b p l r, k => if ordL k p.1 = -1 then findT l k else if ordL k p.1 = 1 then findT r k else .nd b p l r
theorem findT_nil : ∀ (t : Tr) (k : By), Rise t.list → findT t k = .nil → getL t.list k = none
  | .nil, _, _, _ => rfl
  | .nd b p l r, k, h, e => by
    obtain ⟨h1, h2, h3, h4, _⟩ := rise_nd.1 h
    rw [getL_none]
    unfold findT at e
    intro q hq
    simp only [Tr.list, List.mem_append, List.mem_cons] at hq
    by_cases c1 : ordL k p.1 = -1
    · rw [if_pos c1] at e
      have := getL_none.1 (findT_nil l k h1 e)
      rcases hq with hq | rfl | hq
      · exact this q hq
      · exact (qo_ne c1).symm
      · exact (qo_ne (qo_trans _ _ _ c1 (h4 q hq))).symm
    · rw [if_neg c1] at e
      by_cases c2 : ordL k p.1 = 1
      · rw [if_pos c2] at e
        have := getL_none.1 (findT_nil r k h2 e)
        rcases hq with hq | rfl | hq
        · exact qo_ne (qo_trans _ _ _ (h3 q hq) (qo_one c2))
        · exact qo_ne (qo_one c2)
        · exact this q hq
      · rw [if_neg c2] at e
        cases e
theorem findT_nd : ∀ (t : Tr) (k : By) (b : Nat) (p : Pr) (l r : Tr), findT t k = .nd b p l r → p.1 = k ∧ p ∈ t.list
  | .nil, _, _, _, _, _, e => by cases e
  | .nd b p l r, k, b', p', l', r', e => by
    unfold findT at e
    by_cases c1 : ordL k p.1 = -1
    · rw [if_pos c1] at e
      have := findT_nd l k b' p' l' r' e
      exact ⟨this.1, by simp [Tr.list, this.2]⟩
    · rw [if_neg c1] at e
      by_cases c2 : ordL k p.1 = 1
      · rw [if_pos c2] at e
        have := findT_nd r k b' p' l' r' e
        exact ⟨this.1, by simp [Tr.list, this.2]⟩
      · rw [if_neg c2] at e
        cases e
        refine ⟨?_, by simp [Tr.list]⟩
        rcases qo_three k p.1 with h | h | h
        · exact absurd h c1
        · exact h.symm
        · exact absurd h c2
theorem findT_get (t : Tr) (k : By) (h : Rise t.list) : (findT t k = .nil ∧ getL t.list k = none) ∨ ∃ b v l r, findT t k = .nd b (k, v) l r ∧ getL t.list k = some v := by
  cases hf : findT t k with
  | nil => exact .inl ⟨rfl, findT_nil t k h hf⟩
  | nd b p l r =>
    have h9 := findT_nd t k b p l r hf
    obtain ⟨rfl, hm⟩ := h9
    exact .inr ⟨b, p.2, l, r, rfl, (getL_some h).2 hm⟩
/-- the node ahead of which so many stand -/
def atT : Tr → Int → Tr
  | .nil, _ => .nil
  | .nd b p l r, i => if i < l.cnt then atT l i else if (l.cnt : Int) < i then atT r (i - (l.cnt + 1)) else .nd b p l r
theorem atT_none : ∀ (t : Tr) (i : Int), i < 0 ∨ (t.cnt : Int) ≤ i → atT t i = .nil
  | .nil, _, _ => rfl
  | .nd b p l r, i, h => by
    unfold atT
    simp only [Tr.cnt] at h
    by_cases c1 : i < l.cnt
    · rw [if_pos c1]
      exact atT_none l i (by omega)
    · rw [if_neg c1, if_pos (by omega)]
      exact atT_none r _ (by omega)
theorem atT_some : ∀ (t : Tr) (i : Nat) (h : i < t.list.length), ∃ b l r, atT t i = .nd b t.list[i] l r
  | .nil, i, h => by simp [Tr.list] at h
  | .nd b p l r, i, h => by
    have hl := l.len
    have hr := r.len
    unfold atT
    by_cases c1 : (i : Int) < l.cnt
    · rw [if_pos c1]
      obtain ⟨b', l', r', e⟩ := atT_some l i (by omega)
      exact ⟨b', l', r', by rw [e]; simp only [Tr.list]; rw [List.getElem_append_left (by omega)]⟩
    · rw [if_neg c1]
      by_cases c2 : (l.cnt : Int) < i
      · rw [if_pos c2]
        obtain ⟨j, rfl⟩ : ∃ j, i = l.cnt + 1 + j := ⟨i - (l.cnt + 1), by omega⟩
        have hj : j < r.list.length := by
          simp only [Tr.list, List.length_append, List.length_cons] at h
          omega
        obtain ⟨b', l', r', e⟩ := atT_some r j hj
        refine ⟨b', l', r', ?_⟩
        rw [show (((l.cnt + 1 + j : Nat) : Int) - ((l.cnt : Int) + 1)) = (j : Int) by omega, e]
        congr 1
        simp only [Tr.list]
        rw [List.getElem_append_right (by omega)]
        simp only [hl, show l.cnt + 1 + j - l.cnt = j + 1 by omega, List.getElem_cons_succ]
      · rw [if_neg c2]
        refine ⟨b, l, r, ?_⟩
        congr 1
        simp only [Tr.list]
        rw [List.getElem_append_right (by omega)]
        simp only [hl, show i - l.cnt = 0 by omega, List.getElem_cons_zero]
def rankT : Tr → By → Nat
  | .nil, _ => 0
  | .nd _ p l r, k => if 0 ≤ ordL p.1 k then rankT l k else l.cnt + 1 + rankT r k
theorem rank_all {l : List Pr} {k : By} (h : ∀ q ∈ l, ordL q.1 k = -1) : rankL l k = l.length := by
  unfold rankL
  rw [List.countP_eq_length]
  intro q hq
  simpa using h q hq
theorem rank_no {l : List Pr} {k : By} (h : ∀ q ∈ l, 0 ≤ ordL q.1 k) : rankL l k = 0 := by
  unfold rankL
  rw [List.countP_eq_zero]
  intro q hq
  have := h q hq
  simp
  omega
theorem rank_app (l r : List Pr) (k : By) : rankL (l ++ r) k = rankL l k + rankL r k := List.countP_append
theorem rank_cons (p : Pr) (r : List Pr) (k : By) : rankL (p :: r) k = (if ordL p.1 k = -1 then 1 else 0) + rankL r k := by
  unfold rankL
  rw [List.countP_cons]
  by_cases h : ordL p.1 k = -1 <;> simp [h] <;> omega
theorem qo_ge {l r : By} : 0 ≤ ordL l r ↔ ¬ ordL l r = -1 := by
  rcases ordL_range l r with h | h | h <;> omega
theorem qo_ge_trans {p q k : By} (h : 0 ≤ ordL p k) (h2 : ordL p q = -1) : 0 ≤ ordL q k := by
  rw [qo_ge] at h ⊢
  exact fun e => h (qo_trans _ _ _ h2 e)
theorem rankT_is : ∀ (t : Tr) (k : By), Rise t.list → rankT t k = rankL t.list k
  | .nil, _, _ => rfl
  | .nd b p l r, k, h => by
    obtain ⟨h1, h2, h3, h4, _⟩ := rise_nd.1 h
    unfold rankT
    simp only [Tr.list]
    rw [rank_app, rank_cons]
    by_cases c : 0 ≤ ordL p.1 k
    · rw [if_pos c, if_neg (qo_ge.1 c), rankT_is l k h1, rank_no (l := r.list) (fun q hq => qo_ge_trans c (h4 q hq))]
      omega
    · have c' : ordL p.1 k = -1 := by
        by_cases e : ordL p.1 k = -1
        · exact e
        · exact absurd (qo_ge.2 e) c
      rw [if_neg c, if_pos c', rankT_is r k h2, rank_all (l := l.list) (fun q hq => qo_trans _ _ _ (h3 q hq) c'), l.len]
      omega
theorem rank_le (l : List Pr) (k : By) : rankL l k ≤ l.length := List.countP_le_length
/-- the pairs from a key on are those behind its rank -/
theorem rise_split {l : List Pr} (h : Rise l) (k : By) : (∀ q ∈ l.take (rankL l k), ordL q.1 k = -1) ∧ ∀ q ∈ l.drop (rankL l k), 0 ≤ ordL q.1 k := by
  induction l with
  | nil => simp
  | cons p r ih =>
    have a := List.pairwise_cons.1 h
    obtain ⟨i1, i2⟩ := ih a.2
    rw [rank_cons]
    by_cases c : ordL p.1 k = -1
    · rw [if_pos c, Nat.add_comm 1, List.take_succ_cons, List.drop_succ_cons]
      refine ⟨fun q hq => ?_, i2⟩
      rcases List.mem_cons.1 hq with rfl | hq
      · exact c
      · exact i1 q hq
    · have c' := qo_ge.2 c
      rw [if_neg c, rank_no (l := r) (fun q hq => qo_ge_trans c' (a.1 q hq))]
      refine ⟨by simp, fun q hq => ?_⟩
      rcases List.mem_cons.1 hq with rfl | hq
      · exact c'
      · exact qo_ge_trans c' (a.1 q hq)
end Go.Proofs.Ytohpilamoglhcaa
