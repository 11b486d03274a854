/-
  CONTRACT: value.Sorted.
-/
import Derived.Test.YtkoknogefmfmnaaVComp
namespace Go.Proofs.Ytkoknogefmfmnaa
open Go.RowKit Go.Shelf
open Go.Sort (HoldsK)

theorem addr_none {W : World} {B : Nat} {v : Value} (h : OwnV W B v []) : ∃ A c, v = .slice A 0 c := by
  obtain ⟨A, c, e, _⟩ := h.slv
  exact ⟨A, c, e⟩
set_option maxHeartbeats 400000 in
theorem compV_nil (A : Option Addr) (c : Nat) (w : World) :
    Calls Try.prog 28 #[.slice A 0 c] w fun e w' => e = .returned (.slice A 0 c) ∧ w = w' := by
  go_enter Try.func28, Try.ntmps28
  go_wp2
  go_ret
  exact ⟨rfl, rfl⟩
theorem cloneV_nil (A : Option Addr) (c : Nat) (w : World) (hA : A = none → c = 0) (hs : ∀ a, A = some a → a.spot = none) :
    Calls Try.prog 25 #[.slice A 0 c] w fun e w' => ∃ A' c', e = .returned (.slice A' 0 c') ∧ Below w.heap.size w w' := by
  cases A with
  | none =>
    rw [hA rfl]
    exact (cloneV_none w).mono fun e w' ⟨h1, h2⟩ => ⟨none, 0, h1, by rw [← h2]; exact Below.refl _ _⟩
  | some a =>
    obtain ⟨b, o, sp⟩ := a
    have : sp = none := hs _ rfl
    subst this
    refine (cloneV_some b o c [] w (fun h => absurd rfl h) (by simp)).mono fun e w' ⟨v, h1, h2, h3⟩ => ?_
    obtain ⟨A', c', e'⟩ := addr_none h2
    exact ⟨A', c', by rw [h1, e'], h3⟩
set_option maxRecDepth 100000 in
set_option maxHeartbeats 1000000 in
theorem sortedV_nil (A : Option Addr) (c : Nat) (w : World) (hA : A = none → c = 0) (hs : ∀ a, A = some a → a.spot = none) :
    Calls Try.prog 8 #[.slice A 0 c] w fun e w' => ∃ A' c', e = .returned (.slice A' 0 c') ∧ Below w.heap.size w w' := by
  have HC := Lib.hid (cloneV_nil A c w hA hs)
  clear hA hs
  go_enter Try.func8, Try.ntmps8
  go_wp2_with fail
  refine HC.out.mono ?_
  rintro e w1 ⟨A9, c9, rfl, hb1⟩
  have HB1 := Lib.hid hb1
  clear hb1
  have hcon := AnyF.slices_SortFunc_none Try.sortVal A9 c9 (.func (.func 27) #[] #[]) w1
  change Calls Try.prog 26 #[.slice A9 0 c9, _] _ _ at hcon
  have HCON := Lib.hid hcon
  clear hcon
  go_wp2_with fail
  refine HCON.out.mono ?_
  rintro e w2 ⟨rfl, rfl⟩
  go_wp2_with fail
  refine (compV_nil A9 c9 _).mono ?_
  rintro e w3 ⟨rfl, rfl⟩
  go_wp2
  go_ret
  exact ⟨_, _, rfl, HB1.out⟩
set_option maxRecDepth 100000 in
set_option maxHeartbeats 1000000 in
theorem sortedV_some (b o c : Nat) (l : List Vl) (w : World) (hs : SlV w w.heap.size (some ⟨b, o, none⟩) l) (hl : l.length ≤ 50000) (h0 : 0 < l.length) :
    Calls Try.prog 8 #[.slice (some ⟨b, o, none⟩) l.length c] w fun e w' => ∃ A' c', e = .returned (.slice A' (compG VOrd.ordT (riseG VOrd.ordT l)).length c') ∧ SlV w' w'.heap.size A' (compG VOrd.ordT (riseG VOrd.ordT l)) ∧ Below w.heap.size w w' := by
  go_enter Try.func8, Try.ntmps8
  go_wp2_with fail
  refine (cloneV_some b o c l w hs hl).mono ?_
  rintro e w1 ⟨v, rfl, hown, hb1⟩
  rcases hown.2 with ⟨_, h1⟩ | ⟨g, cap, cur, rfl, hgB, hgb, hlc, hcm, _⟩
  · omega
  have hr : w1.ownsRow w.heap.size 24 3 (.slice (some ⟨g, 0, none⟩) l.length cap) l.length (l.flatMap cellsV) := hown
  have hg1 : g < w1.heap.size := (Array.getElem?_eq_some_iff.1 hgb).1
  have HH := Lib.hid (holds_ownG cellsV_len (by decide) hr)
  have HB1 := Lib.hid hb1
  have HR := Lib.hid hr
  have HLC := Lib.hid hlc
  have HG := Lib.hid (show w.heap.size ≤ g ∧ g < w1.heap.size from ⟨hgB, hg1⟩)
  have HL := Lib.hid (show 0 < l.length ∧ l.length ≤ 50000 from ⟨h0, hl⟩)
  clear hown hb1 hr hlc hcm hgB hg1 hgb hs hl h0
  go_wp2_with fail
  refine (sortV_any g cap l w1 w.heap.size HR.out HG.out.2 (by have := HL.out.2; omega)).mono ?_
  rintro e w2 ⟨rfl, n, os, hw2⟩
  have HB2 : Hid (Below w.heap.size w w2) := by rw [hw2]; exact HB1.out.trans (sort_belowG HG.out.1 HG.out.2)
  have hrl : (riseV l).length = l.length := riseG_len l
  have HH2 : Hid (RowV w2 g 0 (riseV l).toArray) := by
    show RowV _ _ _ _
    rw [hw2]; exact rowV_of (sort_holdsG HG.out.2 HH.out (by simp [hrl]))
  have HS2 : Hid (w1.heap.size ≤ w2.heap.size) := by
    show _ ≤ _
    rw [hw2]; exact (sort_belowG (n0 := 0) (Nat.zero_le _) HG.out.2).size
  have HRL := Lib.hid hrl
  clear hw2 hrl
  have hcon := compV_any g 0 cap (riseV l).toArray w2 w.heap.size HG.out.1 (Nat.lt_of_lt_of_le HG.out.2 HS2.out) HH2.out (by have := HL.out.2; simp [HRL.out]; omega) (by simp [HRL.out]; exact HLC.out)
  rw [show (riseV l).toArray.size = l.length from by simp [HRL.out]] at hcon
  have HCON := Lib.hid hcon
  clear hcon
  go_wp2_with fail
  refine HCON.out.mono ?_
  rintro e w3 ⟨r, hr, rfl, hsl, hb3, hsz⟩
  have hr2 : r = compG VOrd.ordT (riseG VOrd.ordT l) := hr.trans (compAll VOrd.ordT_is (riseV l).toArray)
  have HF : Hid (SlV w3 w3.heap.size (some ⟨g, 0, none⟩) (compG VOrd.ordT (riseG VOrd.ordT l)) ∧ Below w.heap.size w w3) := by
    rw [← hr2]
    exact ⟨hsl.more hsz, HB2.out.trans hb3⟩
  rw [hr2]
  clear hr hr2 hsl hb3 hsz
  go_wp2
  go_ret
  exact ⟨_, _, rfl, HF.out⟩
end Go.Proofs.Ytkoknogefmfmnaa
