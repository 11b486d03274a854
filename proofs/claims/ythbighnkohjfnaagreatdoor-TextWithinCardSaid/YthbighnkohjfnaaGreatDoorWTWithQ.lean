/-
  THE DOCUMENT's NODES, IN LISTS: a text within a bracket: the whole, and that the kids are the same nodes.
-/
import Derived.Test.YthbighnkohjfnaaGreatDoorWTWithP
namespace Go.Proofs.YthbighnkohjfnaaGreatDoor
open Go.RowKit

theorem shPs_map : ∀ l : List PN, shPs l = l.map shP
  | [] => by rw [shPs]; rfl
  | x :: l => by rw [shPs, shPs_map l]; rfl
theorem within_top (S s : Bs) (n : Nat) (l : List PN) (s2 : Bs) (p2 m2 : Nat) (h : nodesD pvL (n + 1) none s 0 0 0 = .ok l s2 p2 m2) (hs : s.length ≤ 60000) :
    match nodesD pvL (n + 4) none (123 :: (s ++ tlW)) 0 0 0 with
    | .bad _ => 5000 ≤ m2 ∨ 50 ≤ dpL (l.map (ndOf S))
    | .ok l' _ _ _ => l' = [.mk 5 0 0 [] [] (shPs l) 0] := by
  have hw := within_is S (n + 1) 2 none s 0 0 0 l s2 p2 m2 h (by omega) (by omega) hs
  have ht : tokC (123 :: (s ++ tlW)) 0 = .opn 5 125 (s ++ tlW) 0 := by
    unfold tokC
    rw [show skipN false (123 :: (s ++ tlW)) = 0 from rfl]
    rfl
  rw [nodesD_opn ht, if_neg (by omega)]
  rw [show n + 1 + 2 = n + 3 by omega, show ((none : Option UInt8).getD 125) = 125 from rfl] at hw
  cases hx : nodesD pvL (n + 3) (some 125) (s ++ tlW) (0 + 1) (0 + 1) (0 + 1) with
  | bad b => rw [hx] at hw; exact hw
  | ok l' s' p' m' =>
    rw [hx] at hw
    obtain ⟨h1, h2, _, h4⟩ := hw
    have h5 := h4 rfl
    subst h1
    subst h5
    dsimp only
    rw [nodesD_fin (show tokC [] p' = .fin (p' + 0) from rfl), if_pos rfl]
mutual
theorem alk_sh (S S' : Bs) : ∀ x : PN, alkN (ndOf S' (shP x)) (ndOf S x) = true
  | .mk k vk vn vs s kids a => by
    rw [shP, ndOf_mk, ndOf_mk, alkN_eq]
    show ((k == k) && (eqVB vk vn ⟨vs.toArray⟩ vk vn ⟨vs.toArray⟩ && (((⟨s.toArray⟩ : ByteArray).toList == (⟨s.toArray⟩ : ByteArray).toList) && alkL ((shPs kids).map (ndOf S')) (kids.map (ndOf S))))) = true
    rw [alks_sh S S' kids]
    simp [eqVB]
theorem alks_sh (S S' : Bs) : ∀ l : List PN, alkL ((shPs l).map (ndOf S')) (l.map (ndOf S)) = true
  | [] => by rw [shPs, List.map_nil, List.map_nil, alkL]
  | x :: l => by rw [shPs, List.map_cons, List.map_cons, alkL, alk_sh S S' x, alks_sh S S' l]; rfl
end
mutual
/-- what may stand deeper may stand there -/
theorem may_up (deep : Nat) : ∀ x : Nd, mayNd (deep + 1) x = true → mayNd deep x = true
  | .mk k vk vn vs s kids ln co => by
    intro h
    rw [mayNd] at h ⊢
    by_cases h1 : k = 1
    · rw [if_pos h1] at h ⊢; exact h
    rw [if_neg h1] at h ⊢
    by_cases h2 : k = 2
    · rw [if_pos h2] at h ⊢; exact h
    rw [if_neg h2] at h ⊢
    by_cases h3 : k = 3 ∨ k = 4 ∨ k = 5
    · rw [if_pos h3] at h ⊢
      simp only [Bool.and_eq_true, decide_eq_true_eq] at h ⊢
      obtain ⟨a1, a2, a3, a4⟩ := h
      exact ⟨by omega, a2, a3, mays_up (deep + 1) kids a4⟩
    · rw [if_neg h3] at h; cases h
theorem mays_up (deep : Nat) : ∀ l : List Nd, mayNds (deep + 1) l = true → mayNds deep l = true
  | [] => by intro _; rw [mayNds]
  | x :: l => by
    intro h
    rw [mayNds, Bool.and_eq_true] at h
    rw [mayNds, may_up deep x h.1, mays_up deep l h.2]
    rfl
end
end Go.Proofs.YthbighnkohjfnaaGreatDoor
