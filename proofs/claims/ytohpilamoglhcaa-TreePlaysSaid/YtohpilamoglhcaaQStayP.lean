/-
  PLAIN: put, cut, get of rising lists, one behind another.
-/
import Derived.Test.YtohpilamoglhcaaQEqu
namespace Go.Proofs.Ytohpilamoglhcaa
open Go.RowKit

theorem get_put {L : List Pr} (hR : Rise L) (k x : By) : getL (putL L (k, x)) k = some x := (getL_some (rise_put hR _)).2 (mem_put.2 (.inl rfl))
theorem get_self {L : List Pr} (hR : Rise L) {p : Pr} (hp : p ∈ L) : getL L p.1 = some p.2 := (getL_some hR).2 hp
theorem get_put_ne {L : List Pr} (hR : Rise L) {p : Pr} (hp : p ∈ L) {k x : By} (hne : p.1 ≠ k) : getL (putL L (k, x)) p.1 = some p.2 := (getL_some (rise_put hR _)).2 (mem_put.2 (.inr ⟨hp, hne⟩))
theorem get_cut (L : List Pr) (k : By) : getL (cutL L k) k = none := getL_none.2 (fun _ hq => (mem_cut.1 hq).2)
theorem cut_put {L : List Pr} (hR : Rise L) (k x : By) : cutL (putL L (k, x)) k = cutL L k := rise_ext (rise_cut (rise_put hR _) _) (rise_cut hR _) (fun q => by
  rw [mem_cut, mem_cut, mem_put]
  constructor
  · rintro ⟨rfl | ⟨h1, _⟩, h3⟩
    · exact absurd rfl h3
    · exact ⟨h1, h3⟩
  · rintro ⟨h1, h2⟩
    exact ⟨.inr ⟨h1, h2⟩, h2⟩)
theorem cut_none {L : List Pr} {k : By} (h : getL L k = none) : cutL L k = L := List.filter_eq_self.2 (fun q hq => by simpa using getL_none.1 h q hq)
theorem len_cut {M : List Pr} (hR : Rise M) {k y : By} (h : getL M k = some y) : M.length = (cutL M k).length + 1 := by
  obtain ⟨A, B, rfl⟩ := List.append_of_mem ((getL_some hR).1 h)
  rw [cut_here hR rfl]
  simp
  omega
theorem put_some_len {L : List Pr} (hR : Rise L) {k x y : By} (h : getL L k = some y) : (putL L (k, x)).length = L.length := by rw [len_cut (rise_put hR (k, x)) (get_put hR k x), cut_put hR, len_cut hR h]
theorem put_none_len {L : List Pr} (hR : Rise L) {k x : By} (h : getL L k = none) : (putL L (k, x)).length = L.length + 1 := by rw [len_cut (rise_put hR (k, x)) (get_put hR k x), cut_put hR, cut_none h]
end Go.Proofs.Ytohpilamoglhcaa
