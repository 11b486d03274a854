/-
  PLAIN FACTS: two sets told together, and the set of the instants whose owner is wanted.
-/
import Derived.Test.YtlmihlepaoifiaaJSPure
namespace Go.Proofs.Ytlmihlepaoifiaa

/-- has a set's first span begun? -/
def begunB : List Sp → Int → Bool
  | [], _ => false
  | s :: _, t => decide (s.1 ≤ t)
/-- where a set's first span begins, or, if it has begun, ends -/
def turnI : List Sp → Int → Int
  | [], _ => maxT
  | s :: _, t => if s.1 ≤ t then s.2 else s.1
/-- what is left of a set -/
def behindL : List Sp → Int → List Sp
  | [], _ => []
  | s :: r, t => if s.2 ≤ t then r else s :: r
def whoN (x y : Bool) : Nat := (if x then 1 else 0) + (if y then 2 else 0)
def toI (a b : List Sp) (t : Int) : Int := min (turnI a t) (turnI b t)
/-- what the iterator hands on from an instant on -/
inductive Told : List Sp → List Sp → Int → List (Sp × Nat) → Prop
  | done (t : Int) : Told [] [] t []
  | next {a b : List Sp} {t : Int} {r : List (Sp × Nat)} (h : ¬ (a = [] ∧ b = [])) (k : Told (behindL a (toI a b t)) (behindL b (toI a b t)) (toI a b t) r) :
      Told a b t ((if whoN (begunB a t) (begunB b t) = 0 then [] else [((t, toI a b t), whoN (begunB a t) (begunB b t))]) ++ r)
/-- a set none of whose spans is at its end, and that int64 holds -/
def Live (l : List Sp) (t : Int) : Prop := SetL l ∧ ∀ s ∈ l, t < s.2 ∧ minT ≤ s.1 ∧ s.2 ≤ maxT
/-- how many turns are ahead -/
def cost (l : List Sp) (t : Int) : Nat := 2 * l.length - if begunB l t then 1 else 0

theorem live_tail {s : Sp} {l : List Sp} {t : Int} (h : Live (s :: l) t) : Live l t ∧ ∀ q ∈ l, s.2 < q.1 :=
  ⟨⟨(setL_cons.1 h.1).2.2, fun q hq => h.2 q (by simp [hq])⟩, (setL_cons.1 h.1).2.1⟩
theorem turn_gt {l : List Sp} {t : Int} (h : Live l t) (ht : t < maxT) : t < turnI l t ∧ turnI l t ≤ maxT := by
  cases l with
  | nil => exact ⟨ht, Int.le_refl _⟩
  | cons s r =>
    have h1 := h.2 s (by simp)
    have h2 := (setL_cons.1 h.1).1
    simp only [turnI]
    split <;> omega
theorem live_max {l : List Sp} {t : Int} (h : Live l t) (hl : l ≠ []) : t < maxT := by
  cases l with
  | nil => exact absurd rfl hl
  | cons s r => have := h.2 s (by simp); omega
theorem to_gt {a b : List Sp} {t : Int} (ha : Live a t) (hb : Live b t) (h : ¬ (a = [] ∧ b = [])) : t < toI a b t ∧ toI a b t ≤ maxT ∧ toI a b t ≤ turnI a t ∧ toI a b t ≤ turnI b t := by
  have hm : t < maxT := by
    by_cases h1 : a = []
    · exact live_max hb fun h2 => h ⟨h1, h2⟩
    · exact live_max ha h1
  have h1 := turn_gt ha hm
  have h2 := turn_gt hb hm
  unfold toI
  omega
theorem behind_live {l : List Sp} {t u : Int} (h : Live l t) (_h1 : t < u) (h2 : u ≤ turnI l t) : Live (behindL l u) u := by
  cases l with
  | nil => exact ⟨setL_nil, fun _ h => by cases h⟩
  | cons s r =>
    have hs := h.2 s (by simp)
    have hv := (setL_cons.1 h.1).1
    obtain ⟨hr, hg⟩ := live_tail h
    have hle : u ≤ s.2 := by simp only [turnI] at h2; split at h2 <;> omega
    simp only [behindL]
    split
    · refine ⟨hr.1, fun q hq => ?_⟩
      have h5 := hr.2 q hq
      have h6 := hg q hq
      have h7 := hr.1.2 q hq
      omega
    · refine ⟨h.1, fun q hq => ?_⟩
      have h5 := h.2 q hq
      rcases List.mem_cons.1 hq with rfl | hq
      · omega
      · have h6 := hg q hq
        have h7 := hr.1.2 q hq
        omega
theorem begun_in {l : List Sp} {t u x : Int} (h : Live l t) (h2 : u ≤ turnI l t) (hx : t ≤ x) (hu : x < u) : Inn l x ↔ begunB l t = true := by
  cases l with
  | nil => exact ⟨fun h => absurd h (inn_nil _), fun h => by cases h⟩
  | cons s r =>
    have hg := inn_gap h.1 (t := x)
    simp only [turnI] at h2
    simp only [begunB]
    rw [decide_eq_true_iff, inn_cons]
    by_cases h3 : s.1 ≤ t
    · rw [if_pos h3] at h2
      exact ⟨fun _ => h3, fun _ => .inl ⟨by omega, by omega⟩⟩
    · rw [if_neg h3] at h2
      have hv := (setL_cons.1 h.1).1
      refine ⟨fun k => ?_, fun k => absurd k h3⟩
      rcases k with k | k
      · omega
      · exact absurd k (hg (by omega))
theorem behind_in {l : List Sp} {u x : Int} (hx : u ≤ x) : Inn (behindL l u) x ↔ Inn l x := by
  cases l with
  | nil => exact Iff.rfl
  | cons s r =>
    simp only [behindL]
    split
    · rw [inn_cons]
      exact ⟨.inr, fun k => k.resolve_left (by omega)⟩
    · exact Iff.rfl
theorem cost_le {l : List Sp} {t u : Int} (h : Live l t) (_h1 : t < u) (h2 : u ≤ turnI l t) : cost (behindL l u) u ≤ cost l t ∧ (u = turnI l t → l ≠ [] → cost (behindL l u) u < cost l t) := by
  cases l with
  | nil => exact ⟨Nat.le_refl _, fun _ h => absurd rfl h⟩
  | cons s r =>
    have hs := h.2 s (by simp)
    have hv := (setL_cons.1 h.1).1
    obtain ⟨hr, hg⟩ := live_tail h
    have hle : u ≤ s.2 := by simp only [turnI] at h2; split at h2 <;> omega
    simp only [behindL]
    by_cases hb : s.2 ≤ u
    · rw [if_pos hb]
      unfold cost
      have : (if begunB (s :: r) t = true then 1 else 0) ≤ 1 := by split <;> omega
      simp only [List.length_cons]
      exact ⟨by omega, fun _ _ => by omega⟩
    · rw [if_neg hb]
      simp only [cost, begunB, List.length_cons, decide_eq_true_eq]
      simp only [turnI] at h2 ⊢
      by_cases h3 : s.1 ≤ t
      · rw [if_pos h3] at h2 ⊢
        rw [if_pos (show s.1 ≤ u by omega), if_pos h3]
        exact ⟨Nat.le_refl _, fun e => by omega⟩
      · rw [if_neg h3] at h2 ⊢
        rw [if_neg h3]
        refine ⟨by split <;> omega, fun e _ => ?_⟩
        rw [if_pos (by omega)]
        omega
theorem cost_step {a b : List Sp} {t : Int} (ha : Live a t) (hb : Live b t) (h : ¬ (a = [] ∧ b = [])) :
    cost (behindL a (toI a b t)) (toI a b t) + cost (behindL b (toI a b t)) (toI a b t) < cost a t + cost b t := by
  obtain ⟨h1, _, h3, h4⟩ := to_gt ha hb h
  have k1 := cost_le ha h1 h3
  have k2 := cost_le hb h1 h4
  have hm : toI a b t = turnI a t ∨ toI a b t = turnI b t := by unfold toI; omega
  by_cases ea : a = []
  · have eb : b ≠ [] := fun e => h ⟨ea, e⟩
    have : toI a b t = turnI b t := by
      rcases hm with e | e
      · have g : turnI a t = maxT := by rw [ea]; rfl
        have g2 := (turn_gt hb (live_max hb eb)).2
        omega
      · exact e
    have := k2.2 this eb
    omega
  · by_cases eb : b = []
    · have : toI a b t = turnI a t := by
        rcases hm with e | e
        · exact e
        · have g : turnI b t = maxT := by rw [eb]; rfl
          have g2 := (turn_gt ha (live_max ha ea)).2
          omega
      have := k1.2 this ea
      omega
    · rcases hm with e | e
      · have := k1.2 e ea; omega
      · have := k2.2 e eb; omega
theorem told_any : ∀ (n : Nat) (a b : List Sp) (t : Int), cost a t + cost b t ≤ n → Live a t → Live b t → ∃ r, Told a b t r
  | 0, a, b, t, hn, ha, hb => by
    by_cases h : a = [] ∧ b = []
    · obtain ⟨rfl, rfl⟩ := h; exact ⟨_, .done _⟩
    · have := cost_step ha hb h; omega
  | n + 1, a, b, t, hn, ha, hb => by
    by_cases h : a = [] ∧ b = []
    · obtain ⟨rfl, rfl⟩ := h; exact ⟨_, .done _⟩
    · obtain ⟨h1, _, h3, h4⟩ := to_gt ha hb h
      have := cost_step ha hb h
      obtain ⟨r, hr⟩ := told_any n _ _ _ (by omega) (behind_live ha h1 h3) (behind_live hb h1 h4)
      exact ⟨_, .next h hr⟩

/-- what is chosen of what is told -/
def pickL (f : Nat → Bool) (acc : List Sp) (r : List (Sp × Nat)) : List Sp := r.foldl (fun acc x => if f x.2 then addL acc x.1 else acc) acc
theorem pickL_nil (f : Nat → Bool) (acc : List Sp) : pickL f acc [] = acc := rfl
theorem pickL_cons (f : Nat → Bool) (acc : List Sp) (x : Sp × Nat) (r : List (Sp × Nat)) : pickL f acc (x :: r) = pickL f (if f x.2 then addL acc x.1 else acc) r := rfl
def wants (f : Nat → Bool) (x y : Bool) : Prop := whoN x y ≠ 0 ∧ f (whoN x y) = true
instance (f : Nat → Bool) (x y : Bool) : Decidable (wants f x y) := by unfold wants; infer_instance
theorem told_pick {a b : List Sp} {t : Int} {r : List (Sp × Nat)} (h : Told a b t r) : Live a t → Live b t → minT ≤ t → ∀ (f : Nat → Bool) (acc : List Sp), SetL acc → (∀ s ∈ acc, s.1 < t ∧ s.2 ≤ t ∧ SpOk s) →
    SetL (pickL f acc r) ∧ (∀ s ∈ pickL f acc r, SpOk s) ∧ (∀ x, Inn (pickL f acc r) x ↔ (x < t ∧ Inn acc x) ∨ (t ≤ x ∧ wants f (innB a x) (innB b x))) := by
  induction h with
  | done t =>
    intro _ _ _ f acc hs hc
    rw [pickL_nil]
    refine ⟨hs, fun s hs => (hc s hs).2.2, fun x => ⟨fun hi => ?_, fun hi => ?_⟩⟩
    · obtain ⟨s, hs1, hs2, hs3⟩ := hi
      have := hc s hs1
      exact .inl ⟨by omega, s, hs1, hs2, hs3⟩
    · rcases hi with hi | ⟨_, hi, _⟩
      · exact hi.2
      · exact absurd rfl hi
  | @next a b t r h _ ih =>
    intro ha hb htm f acc hs hc
    obtain ⟨h1, h2, h3, h4⟩ := to_gt ha hb h
    have la := behind_live ha h1 h3
    have lb := behind_live hb h1 h4
    have na : ∀ x, toI a b t ≤ x → innB (behindL a (toI a b t)) x = innB a x := fun x hx => by unfold innB; rw [decide_eq_decide]; exact behind_in hx
    have nb : ∀ x, toI a b t ≤ x → innB (behindL b (toI a b t)) x = innB b x := fun x hx => by unfold innB; rw [decide_eq_decide]; exact behind_in hx
    have ea : ∀ x, t ≤ x → x < toI a b t → innB a x = begunB a t := fun x hx hu => by
      rw [Bool.eq_iff_iff]; unfold innB; rw [decide_eq_true_iff]; exact begun_in ha h3 hx hu
    have eb : ∀ x, t ≤ x → x < toI a b t → innB b x = begunB b t := fun x hx hu => by
      rw [Bool.eq_iff_iff]; unfold innB; rw [decide_eq_true_iff]; exact begun_in hb h4 hx hu
    have sp : SpOk (t, toI a b t) := ⟨⟨htm, by show t ≤ maxT; omega⟩, by show minT ≤ toI a b t; omega, h2⟩
    have key : ∀ acc', SetL acc' → (∀ s ∈ acc', s.1 < toI a b t ∧ s.2 ≤ toI a b t ∧ SpOk s) → (∀ x, Inn acc' x ↔ (x < t ∧ Inn acc x) ∨ (t ≤ x ∧ x < toI a b t ∧ wants f (begunB a t) (begunB b t))) →
        SetL (pickL f acc' r) ∧ (∀ s ∈ pickL f acc' r, SpOk s) ∧ (∀ x, Inn (pickL f acc' r) x ↔ (x < t ∧ Inn acc x) ∨ (t ≤ x ∧ wants f (innB a x) (innB b x))) := fun acc' hs' hc' hi' => by
      obtain ⟨k1, k2, k3⟩ := ih la lb (by omega) f acc' hs' hc'
      refine ⟨k1, k2, fun x => ?_⟩
      rw [k3 x, hi' x]
      by_cases hx : x < toI a b t
      · by_cases hx2 : t ≤ x
        · rw [ea x hx2 hx, eb x hx2 hx]
          constructor
          · rintro (⟨_, k | k⟩ | k)
            · omega
            · exact .inr ⟨hx2, k.2.2⟩
            · omega
          · rintro (k | k)
            · omega
            · exact .inl ⟨hx, .inr ⟨hx2, hx, k.2⟩⟩
        · constructor
          · rintro (⟨_, k | k⟩ | k)
            · exact .inl k
            · omega
            · omega
          · rintro (k | k)
            · exact .inl ⟨hx, .inl k⟩
            · omega
      · rw [na x (by omega), nb x (by omega)]
        constructor
        · rintro (k | k)
          · omega
          · exact .inr ⟨by omega, k.2⟩
        · rintro (k | k)
          · omega
          · exact .inr ⟨by omega, k.2⟩
    have inA : ∀ x, Inn acc x → x < t := fun x ⟨s, hs1, _, hs3⟩ => by have := hc s hs1; omega
    by_cases hw : whoN (begunB a t) (begunB b t) = 0
    · rw [if_pos hw, List.nil_append]
      refine key acc hs (fun s hs => by have := hc s hs; exact ⟨by omega, by omega, this.2.2⟩) (fun x => ?_)
      unfold wants
      constructor
      · intro k; exact .inl ⟨inA x k, k⟩
      · rintro (k | k)
        · exact k.2
        · exact absurd hw k.2.2.1
    · rw [if_neg hw]
      rw [show pickL f acc ([((t, toI a b t), whoN (begunB a t) (begunB b t))] ++ r) = pickL f (if f (whoN (begunB a t) (begunB b t)) then addL acc (t, toI a b t) else acc) r from rfl]
      by_cases hf : f (whoN (begunB a t) (begunB b t)) = true
      · rw [if_pos hf]
        obtain ⟨k1, k2, k3⟩ := addL_set (l := acc) (s := (t, toI a b t)) hs h1 (fun q hq => by have := hc q hq; show q.1 ≤ t; omega)
        refine key _ k1 (fun s hs => ?_) (fun x => ?_)
        · refine addL_all (P := fun s => s.1 < toI a b t ∧ s.2 ≤ toI a b t ∧ SpOk s) (fun s hs => by have := hc s hs; exact ⟨by omega, by omega, this.2.2⟩) ⟨h1, Int.le_refl _, sp⟩ (fun p hp => ?_) s hs
          have := hp
          refine ⟨hp.1, ?_, ?_⟩
          · show max p.2 (toI a b t) ≤ _; omega
          · obtain ⟨q1, q2, q3⟩ := hp.2.2
            refine ⟨q1, ?_, ?_⟩
            · show minT ≤ max p.2 (toI a b t); omega
            · show max p.2 (toI a b t) ≤ maxT; omega
        · rw [k2 x]
          unfold wants
          show Inn acc x ∨ (t ≤ x ∧ x < toI a b t) ↔ _
          constructor
          · rintro (k | k)
            · exact .inl ⟨inA x k, k⟩
            · exact .inr ⟨k.1, k.2, hw, hf⟩
          · rintro (k | k)
            · exact .inl k.2
            · exact .inr ⟨k.1, k.2.1⟩
      · rw [if_neg hf]
        refine key acc hs (fun s hs => by have := hc s hs; exact ⟨by omega, by omega, this.2.2⟩) (fun x => ?_)
        unfold wants
        constructor
        · intro k; exact .inl ⟨inA x k, k⟩
        · rintro (k | k)
          · exact k.2
          · exact absurd k.2.2.2 hf
end Go.Proofs.Ytlmihlepaoifiaa
