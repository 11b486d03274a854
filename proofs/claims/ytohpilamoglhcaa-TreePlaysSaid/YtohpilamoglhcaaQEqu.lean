/-
  CONTRACT: equal, at trees of the same pairs; plain: what stands at a place of a rising list.
-/
import Derived.Test.YtohpilamoglhcaaQDiff
import Derived.Test.YtohpilamoglhcaaQPartsP
namespace Go.Proofs.Ytohpilamoglhcaa
open Go.RowKit

theorem diffL_self {L : List Pr} (h : Rise L) : diffL L L = [] := by
  unfold diffL
  rw [List.filter_eq_nil_iff]
  intro p hp
  rw [decide_eq_true ((getL_some h).2 hp)]
  simp
theorem splitQ_at {L : List Pr} {j : Nat} {p : Pr} (hp : L[j]? = some p) : L = L.take j ++ p :: L.drop (j + 1) := by
  obtain ⟨hj, rfl⟩ := List.getElem?_eq_some_iff.1 hp
  rw [List.getElem_cons_drop, List.take_append_drop]
theorem dropQ_at {L : List Pr} {j : Nat} {p : Pr} (hp : L[j]? = some p) : L.drop j = p :: L.drop (j + 1) := by
  obtain ⟨hj, rfl⟩ := List.getElem?_eq_some_iff.1 hp
  rw [List.getElem_cons_drop]
theorem rank_at {L : List Pr} (hR : Rise L) {j : Nat} {p : Pr} (hp : L[j]? = some p) : rankL L p.1 = j := by
  have hs := splitQ_at hp
  have hj := (List.getElem?_eq_some_iff.1 hp).1
  rw [hs] at hR
  obtain ⟨_, _, h3, h4, _⟩ := rise_nd.1 hR
  have e1 : (L.take j).countP (fun q => decide (ordL q.1 p.1 = -1)) = (L.take j).length := List.countP_eq_length.2 (fun q hq => decide_eq_true (show ordL q.1 p.1 = -1 from h3 q hq))
  have e2 : (L.drop (j + 1)).countP (fun q => decide (ordL q.1 p.1 = -1)) = 0 := List.countP_eq_zero.2 (fun q hq => by
    have h5 : ordL p.1 q.1 = -1 := h4 q hq
    have h6 := qo_mone h5
    have h7 : ¬ ordL q.1 p.1 = -1 := by omega
    simpa using h7)
  unfold rankL
  conv => lhs; rw [hs]
  rw [List.countP_append, List.countP_cons_of_neg (by simpa using qo_irr p.1), e1, e2, List.length_take]
  omega
theorem put_head {p : Pr} {M : List Pr} (hR : Rise (p :: M)) : putL M p = p :: M := by
  have h4 : ∀ q ∈ M, Lt p q := (List.pairwise_cons.1 hR).1
  have e1 : M.filter (fun q => decide (Lt q p)) = [] := List.filter_eq_nil_iff.2 (fun q hq => by
    have h5 : ordL p.1 q.1 = -1 := h4 q hq
    have h6 := qo_mone h5
    have h7 : ¬ Lt q p := fun h => by
      have h8 : ordL q.1 p.1 = -1 := h
      omega
    simpa using h7)
  have e2 : M.filter (fun q => decide (Lt p q)) = M := List.filter_eq_self.2 (fun q hq => by simpa using h4 q hq)
  unfold putL
  rw [e1, e2]
  rfl
theorem put_drop {L : List Pr} (hR : Rise L) {j : Nat} {p : Pr} (hp : L[j]? = some p) : putL (L.drop (j + 1)) p = L.drop j := by
  rw [dropQ_at hp]
  refine put_head ?_
  rw [← dropQ_at hp]
  exact hR.sublist (List.drop_sublist _ _)
theorem lt_next {L : List Pr} (hR : Rise L) {j : Nat} {p q : Pr} (hp : L[j]? = some p) (hq : L[j + 1]? = some q) : Op.bytesLess p.1 q.1 = true := by
  refine bless_lt ?_
  obtain ⟨h1, rfl⟩ := List.getElem?_eq_some_iff.1 hp
  obtain ⟨h2, rfl⟩ := List.getElem?_eq_some_iff.1 hq
  exact List.pairwise_iff_getElem.1 hR _ _ h1 h2 (by omega)
theorem ownQ_len {w : World} {B : Nat} {v : Value} {qs : List Q3} {L : List Pr} (_ : OwnQ w B v qs) (h : qs.map (·.1) = L) : qs.length = L.length := by rw [← h, List.length_map]
end Go.Proofs.Ytohpilamoglhcaa
