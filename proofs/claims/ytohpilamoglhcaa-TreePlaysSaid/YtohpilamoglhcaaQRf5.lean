/-
  THE DOCUMENT'S TREE; plain: Has, and Put by parts.
-/
import Derived.Test.YtohpilamoglhcaaQRf4
import Derived.Test.YtohpilamoglhcaaQStayP
import Derived.Deep.Upon
namespace Go.Proofs.Ytohpilamoglhcaa
open Go.RowKit

theorem hasR_is {L : List Pr} (hR : Rise L) (k : By) : hasR L k = (getL L k).isSome := by
  unfold hasR
  cases hg : getL L k with
  | some v =>
    have hm := (getL_some hR).1 hg
    obtain ⟨j, hj, he⟩ := List.getElem_of_mem hm
    have hp : L[j]? = some (k, v) := by rw [List.getElem?_eq_getElem hj, he]
    have hr := rank_at hR hp
    rw [show rankL L k = j from hr, hp]
    simp
  | none =>
    cases hp : L[rankL L k]? with
    | none => rfl
    | some p =>
      have hne := getL_none.1 hg p (List.mem_of_getElem? hp)
      simpa using hne
theorem put_parts {L : List Pr} (hR : Rise L) (k x : By) : putL L (k, x) = (cutL L k).take (rankL (cutL L k) k) ++ (k, x) :: (cutL L k).drop (rankL (cutL L k) k) := by
  have hC := rise_cut hR k
  obtain ⟨h1, h2⟩ := rise_split hC k
  have hne : ∀ q ∈ cutL L k, q.1 ≠ k := fun q hq => (mem_cut.1 hq).2
  have h3 : ∀ q ∈ (cutL L k).drop (rankL (cutL L k) k), ordL k q.1 = -1 := fun q hq => by
    have h4 := h2 q hq
    have h5 := hne q (List.mem_of_mem_drop hq)
    rcases qo_three q.1 k with h | h | h
    · omega
    · exact absurd h h5
    · exact qo_one h
  refine rise_ext (rise_put hR _) (rise_nd.2 ⟨hC.sublist (List.take_sublist _ _), hC.sublist (List.drop_sublist _ _), fun q hq => h1 q hq, fun q hq => h3 q hq, fun q hq r hr => qo_trans _ _ _ (h1 q hq) (h3 r hr)⟩) (fun q => ?_)
  rw [mem_put, List.mem_append, List.mem_cons]
  have hm : q ∈ cutL L k ↔ q ∈ (cutL L k).take (rankL (cutL L k) k) ∨ q ∈ (cutL L k).drop (rankL (cutL L k) k) := by
    conv => lhs; rw [← List.take_append_drop (rankL (cutL L k) k) (cutL L k)]
    exact List.mem_append
  rw [mem_cut] at hm
  constructor
  · rintro (h | h)
    · exact .inr (.inl h)
    · rcases hm.1 h with h | h
      · exact .inl h
      · exact .inr (.inr h)
  · rintro (h | h | h)
    · exact .inr (hm.2 (.inl h))
    · exact .inl h
    · exact .inr (hm.2 (.inr h))
end Go.Proofs.Ytohpilamoglhcaa
