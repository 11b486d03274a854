/-
  CONTRACTS: over.
-/
import Derived.Test.YtohpilamoglhcaaQAt
import Derived.Test.YtohpilamoglhcaaRegion
import Derived.BigQuiet
import Derived.Deep.QuietTactic
import Derived.Deep.RegionWith
import Derived.OwnWalk
namespace Go.Proofs.Ytohpilamoglhcaa
open Go.RowKit

theorem callW2 {P : Program} {ops : Array Oper} {Q : Exit → Act → World → Prop} {md : Region.Mode} {S : World → Prop} {fuel : Nat} {listed : Array Bool} {a : Act} {w : World} (i j : Nat) {oi oj : Oper} (hi : ops[i]? = some oi) (hj : ops[j]? = some oj) (hr : Region.ready md ops listed = [i, j]) (hwi : Region.wanted oi (yielded ops a.tmps) = true) (hwj : Region.wanted oj (yielded ops a.tmps) = true)
    (h1 : ∀ K' : Act → World → Prop, Shut (∀ a w, S w → (S w → wpAnyH P md ops Q S fuel (listed.setIfInBounds i true) a w) → K' a w) → Oper.wp P oi a w K' Q)
    (h2 : ∀ K' : Act → World → Prop, Shut (∀ a w, S w → (S w → wpAnyH P md ops Q S fuel (listed.setIfInBounds j true) a w) → K' a w) → Oper.wp P oj a w K' Q) : wpAnyH P md ops Q S (fuel + 1) listed a w :=
  wpAnyH_ready hr (by simp) (AllReadyH.cons hi (fun K' hK => by rw [if_pos hwi]; exact h1 K' hK) (AllReadyH.cons hj (fun K' hK => by rw [if_pos hwj]; exact h2 K' hK) AllReadyH.nil))

/-- what over leaves -/
def OvEnd (w : World) (pb : Nat) (l r : Tr) (e : Ending) (w' : World) : Prop :=
  ∃ b, e = .returned (.pointer (some ⟨b, 0, none⟩)) ∧ NodeAt w' b pb l.ptr r.ptr ((l.cnt + 1 + r.cnt : Nat) : Int) ∧ Below w.heap.size w w'
set_option maxRecDepth 100000 in
set_option maxHeartbeats 1000000 in
theorem over_any [LT Gb] (pb : Nat) (u1 u2 : Option Addr) (n0 : Int) (l r : Tr) (w : World) (hl : TreeAt w l) (hr : TreeAt w r) (hn : l.cnt ≤ 2000000) (hm : r.cnt ≤ 2000000) :
    Calls Try.prog 80 #[.agg #[.pointer (some ⟨pb, 0, none⟩), .pointer u1, .pointer u2, .int .i64 n0], l.ptr, r.ptr] w (OvEnd w pb l r) := by
  have HL := Lib.hid (fun X (hX : Below w.heap.size w X) => count_any l X (hl.next hX))
  have HR := Lib.hid (fun X (hX : Below w.heap.size w X) => count_any r X (hr.next hX))
  have HN : Hid (l.cnt ≤ 2000000 ∧ r.cnt ≤ 2000000) := ⟨hn, hm⟩
  have HP : Hid (∀ v1 v2 v3 v4, NodeAt (w.alloc (.cells #[v1, v2, v3, v4] 132)) w.heap.size pb l.ptr r.ptr ((l.cnt + 1 + r.cnt : Nat) : Int) = (v1 = .pointer (some ⟨pb, 0, none⟩) ∧ v2 = l.ptr ∧ v3 = r.ptr ∧ v4 = .int .i64 ((l.cnt + 1 + r.cnt : Nat) : Int))) := fun v1 v2 v3 v4 => by
    unfold NodeAt
    rw [heap_alloc_new]
    simp
  obtain ⟨ul, hul⟩ := l.ptr_pointer
  obtain ⟨ur, hur⟩ := r.ptr_pointer
  rw [hul, hur] at HP
  rw [hul] at HL
  rw [hur] at HR
  unfold OvEnd
  rw [hul, hur]
  clear hl hr hul hur
  go_enter Try.func80, Try.ntmps80
  go_wp2_with fail
  refine (HL.out _ ((Below.refl _ _).alloc (Nat.le_refl _) _)).mono ?_
  rintro e w1 ⟨rfl, rfl⟩
  go_wp2_with fail
  refine (HR.out _ ((Below.refl _ _).alloc (Nat.le_refl _) _)).mono ?_
  rintro e w1 ⟨rfl, rfl⟩
  have hn1 := HN.out.1
  have hn2 := HN.out.2
  go_wp2
  go_ret
  refine ⟨w.heap.size, rfl, ?_, (Below.refl _ _).alloc (Nat.le_refl _) _⟩
  rw [HP.out]
  exact ⟨rfl, rfl, rfl, by congr 1⟩
end Go.Proofs.Ytohpilamoglhcaa
