/-
  PLAIN FACTS: how the document's reader of a set goes on: what is read, and what is left.
-/
import Derived.Test.YtecolajhahmfcaaDoorSTextP
namespace Go.Proofs.YtecolajhahmfcaaDoor

def tailT (m : List Sp) : List UInt8 := if m = [] then [] else 32 :: bodyT m
theorem body_tail (s : Sp) : ∀ m : List Sp, bodyT (s :: m) = oneT s ++ tailT m
  | [] => by show oneT s = _; unfold tailT; simp
  | p :: m => by rw [bodyT_cons]; unfold tailT; simp
theorem tail_inv {m l : List Sp} {R : List UInt8} (h : tailT m = 32 :: (bodyT l ++ R)) : m ≠ [] ∧ bodyT m = bodyT l ++ R := by
  unfold tailT at h
  split at h
  · cases h
  · rename_i hm
    injection h with _ h
    exact ⟨hm, h⟩
/-- of a set whose text begins with the text of some spans: these are its first ones, and a blank comes behind them, or nothing -/
theorem body_pre : ∀ {l m : List Sp} {R : List UInt8}, l ≠ [] → m ≠ [] → AllOk l → AllOk m → bodyT m = bodyT l ++ R → ∃ m', m = l ++ m' ∧ R = tailT m'
  | [], _, _, h, _, _, _, _ => absurd rfl h
  | _ :: _, [], _, _, h, _, _, _ => absurd rfl h
  | [s], p :: m, R, _, _, hl, hm, e => by
    rw [body_tail, body_tail] at e
    have e0 : tailT ([] : List Sp) = [] := rfl
    rw [e0, List.append_nil] at e
    obtain ⟨h1, h2⟩ := oneT_inj (hm p (by simp)) (hl s (by simp)) e
    subst h1
    exact ⟨m, rfl, h2.symm⟩
  | s :: q :: l, p :: m, R, _, _, hl, hm, e => by
    rw [body_tail, body_tail s (q :: l), List.append_assoc] at e
    obtain ⟨h1, h2⟩ := oneT_inj (hm p (by simp)) (hl s (by simp)) e
    subst h1
    have e1 : tailT (q :: l) = 32 :: bodyT (q :: l) := by unfold tailT; simp
    rw [e1, List.cons_append] at h2
    obtain ⟨h3, h4⟩ := tail_inv h2
    obtain ⟨m', h5, h6⟩ := body_pre (l := q :: l) (m := m) (by simp) h3 (fun x hx => hl x (List.mem_cons_of_mem _ hx)) (fun x hx => hm x (List.mem_cons_of_mem _ hx)) h4
    exact ⟨m', by rw [h5]; rfl, h6⟩
/-- where nothing was read, or a blank was read behind what was: what is left begins a span -/
theorem left_one {s R : List UInt8} {l : List Sp} (hl : AllOk l) (h : (l = [] ∧ s = R) ∨ (l ≠ [] ∧ s = bodyT l ++ 32 :: R)) : ∀ m, m ≠ [] → AllOk m → bodyT m = s → ∃ x m', m = l ++ x :: m' ∧ SpOk x ∧ R = 91 :: (endT x.1 ++ 44 :: (endT x.2 ++ 41 :: tailT m')) := fun m hm ok e => by
  have fin : ∀ m', m' ≠ [] → AllOk m' → R = bodyT m' → ∃ x m'', m' = x :: m'' ∧ SpOk x ∧ R = 91 :: (endT x.1 ++ 44 :: (endT x.2 ++ 41 :: tailT m'')) := fun m' hm' ok' e' => by
    cases m' with
    | nil => exact absurd rfl hm'
    | cons x m'' =>
      refine ⟨x, m'', rfl, ok' x (by simp), ?_⟩
      rw [e', body_tail]
      unfold oneT
      simp
  rcases h with ⟨rfl, h⟩ | ⟨hn, h⟩
  · obtain ⟨x, m', h1, h2, h3⟩ := fin m hm ok (by rw [← h, e])
    exact ⟨x, m', by rw [h1]; rfl, h2, h3⟩
  · rw [h] at e
    obtain ⟨m', h1, h2⟩ := body_pre hn hm hl ok e
    have h3 : m' ≠ [] := by
      rintro rfl
      have : tailT ([] : List Sp) = [] := rfl
      rw [this] at h2; cases h2
    have h4 : R = bodyT m' := by
      unfold tailT at h2
      rw [if_neg h3] at h2
      injection h2
    subst h1
    obtain ⟨x, m'', h5, h6, h7⟩ := fin m' h3 (fun y hy => ok y (List.mem_append.2 (.inr hy))) h4
    exact ⟨x, m'', by rw [h5], h6, h7⟩
/-- a number that was read up to its stop is the one that stands there -/
theorem stop_one {a x : Int} {c : UInt8} {r r' : List UInt8} (hc : c = 44 ∨ c = 41) (ha : minT ≤ a ∧ a ≤ maxT) (hx : minT ≤ x ∧ x ≤ maxT) (h : endT a ++ c :: r = endT x ++ c :: r') : a = x ∧ r = r' := by
  have hn : ∀ y : Int, ∀ z ∈ endT y, z ≠ c := fun y z hz => by
    have := numC_not (endT_mem y z hz)
    rcases hc with rfl | rfl
    · exact this.1
    · exact this.2.1
  obtain ⟨h1, h2⟩ := stop_inj (hn a) (hn x) h
  exact ⟨endT_inj ha hx h1, h2⟩
theorem end_stop {x : Int} {c : UInt8} (hc : c = 44 ∨ c = 41) : ∀ z ∈ endT x, z ≠ c := fun z hz => by
  have := numC_not (endT_mem x z hz)
  rcases hc with rfl | rfl
  · exact this.1
  · exact this.2.1
/-- one more span -/
theorem body_snoc' {s R R' : List UInt8} {l : List Sp} {x : Sp} (h : (l = [] ∧ s = R) ∨ (l ≠ [] ∧ s = bodyT l ++ 32 :: R)) (hR : R = 91 :: (endT x.1 ++ 44 :: (endT x.2 ++ 41 :: R'))) : s = bodyT (l ++ [x]) ++ R' := by
  have e : R = oneT x ++ R' := by rw [hR]; unfold oneT; simp
  rcases h with ⟨rfl, h⟩ | ⟨hn, h⟩
  · rw [h, e]; rfl
  · rw [h, e, bodyT_snoc l x hn]; simp
end Go.Proofs.YtecolajhahmfcaaDoor
