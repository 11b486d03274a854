/-
  PLAIN FACTS: a text cut at its blanks.
-/
import Derived.Test.YtfonmgpkbgdniaaGreatDoorJSTextP
namespace Go.Proofs.YtfonmgpkbgdniaaGreatDoor

/-- the pieces between blanks -/
def splitL : List UInt8 → List (List UInt8)
  | [] => [[]]
  | c :: r => if c = 32 then [] :: splitL r else match splitL r with
    | [] => [[c]]
    | p :: q => (c :: p) :: q
theorem splitL_mid : ∀ {p : List UInt8} (r : List UInt8), (∀ c ∈ p, c ≠ 32) → splitL (p ++ 32 :: r) = p :: splitL r
  | [], r, _ => by simp [splitL]
  | c :: p, r, h => by
    have hc : c ≠ 32 := h c List.mem_cons_self
    rw [List.cons_append, splitL, if_neg hc, splitL_mid r (fun x hx => h x (List.mem_cons_of_mem _ hx))]
theorem splitL_end : ∀ {p : List UInt8}, (∀ c ∈ p, c ≠ 32) → splitL p = [p]
  | [], _ => rfl
  | c :: p, h => by
    have hc : c ≠ 32 := h c List.mem_cons_self
    rw [splitL, if_neg hc, splitL_end (fun x hx => h x (List.mem_cons_of_mem _ hx))]
theorem splitL_body : ∀ {m : List Sp}, m ≠ [] → splitL (bodyT m) = m.map oneT
  | [], h => absurd rfl h
  | [s], _ => splitL_end (oneT_no s)
  | s :: p :: l, _ => by
    rw [bodyT_cons, splitL_mid _ (oneT_no s), splitL_body (by simp)]; rfl
theorem splitL_len : ∀ l : List UInt8, (splitL l).length ≤ l.length + 1
  | [] => Nat.le_refl _
  | c :: r => by
    have := splitL_len r
    rw [splitL]
    by_cases h : c = 32
    · rw [if_pos h]; simp; omega
    · rw [if_neg h]
      cases hs : splitL r with
      | nil => simp
      | cons p q => rw [hs] at this; simp at this ⊢; omega
theorem splitL_small : ∀ (l p : List UInt8), p ∈ splitL l → p.length ≤ l.length
  | [], p, h => by simp [splitL] at h; subst h; simp
  | c :: r, p, h => by
    rw [splitL] at h
    by_cases hc : c = 32
    · rw [if_pos hc] at h
      rcases List.mem_cons.1 h with e | h
      · subst e; simp
      · have := splitL_small r p h; simp; omega
    · rw [if_neg hc] at h
      cases hs : splitL r with
      | nil => rw [hs] at h; simp at h; subst h; simp
      | cons a b =>
        rw [hs] at h
        rcases List.mem_cons.1 h with e | h
        · have := splitL_small r a (by rw [hs]; simp)
          subst e; simp; omega
        · have := splitL_small r p (by rw [hs]; exact List.mem_cons_of_mem _ h)
          simp; omega
theorem splitL_pos (l : List UInt8) : 1 ≤ (splitL l).length := by
  cases l with
  | nil => simp [splitL]
  | cons c r =>
    rw [splitL]
    by_cases hc : c = 32
    · rw [if_pos hc]; simp
    · rw [if_neg hc]
      cases splitL r <;> simp
end Go.Proofs.YtfonmgpkbgdniaaGreatDoor
