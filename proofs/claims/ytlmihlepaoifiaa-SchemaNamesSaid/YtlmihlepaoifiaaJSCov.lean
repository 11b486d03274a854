/-
  CONTRACTS: Covers; Same (of two lists of spans that are equal).
-/
import Derived.WalkMore
import Derived.Test.YtlmihlepaoifiaaJFThen
namespace Go.Proofs.Ytlmihlepaoifiaa
open Go.RowKit Go.Shelf
attribute [local go_sem] Oper.semAt_some

theorem addL_ne (l : List Sp) (s : Sp) : addL l s ≠ [] := by
  rcases List.eq_nil_or_concat l with rfl | ⟨r, p, rfl⟩
  · rw [addL_nil]; simp
  · rw [List.concat_eq_append, addL_snoc]
    split <;> simp
def isTwo (n : Nat) : Bool := n == 2
theorem pick_ne : ∀ (r : List (Sp × Nat)) (acc : List Sp), (acc ≠ [] ∨ ∃ x ∈ r, x.2 = 2) → pickL isTwo acc r ≠ []
  | [], acc, h => by
    rcases h with h | ⟨x, hx, _⟩
    · exact h
    · cases hx
  | x :: r, acc, h => by
    rw [pickL_cons]
    refine pick_ne r _ ?_
    by_cases h2 : x.2 = 2
    · have : isTwo x.2 = true := by unfold isTwo; rw [h2]; rfl
      rw [if_pos this]
      exact .inl (addL_ne _ _)
    · have : ¬ isTwo x.2 = true := by unfold isTwo; simpa using h2
      rw [if_neg this]
      rcases h with h | ⟨y, hy, hy2⟩
      · exact .inl h
      · rcases List.mem_cons.1 hy with rfl | hy
        · exact absurd hy2 h2
        · exact .inr ⟨y, hy, hy2⟩
theorem wantsTwo_is (x y : Bool) : wants isTwo x y → x = false ∧ y = true := by cases x <;> cases y <;> decide
end Go.Proofs.Ytlmihlepaoifiaa
