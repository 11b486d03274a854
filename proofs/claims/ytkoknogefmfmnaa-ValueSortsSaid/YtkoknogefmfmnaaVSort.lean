/-
  CONTRACT: slices.SortFunc at values, by value.Compare.
-/
import Derived.Test.YtkoknogefmfmnaaSortG
import Derived.Test.YtkoknogefmfmnaaVOrd
import Derived.Test.YtkoknogefmfmnaaOrd
namespace Go.Proofs.Ytkoknogefmfmnaa
open Go.RowKit Go.Shelf
open Go.Sort (SWO SortedIn PermIn grow grow_grow alloc_eq_grow HoldsK)

/-- an order sorts -/
theorem swoO {α : Type} {o : α → α → Int} (h : VOrd.IsOrd o) : SWO (ltOf o) where
  irrefl x := by
    unfold ltOf
    rw [decide_eq_false_iff_not, (h.zero x x).2 rfl]; omega
  trans x y z h1 h2 := by
    unfold ltOf at *
    rw [decide_eq_true_eq] at *
    exact h.lt h1 (by omega)
  ntrans x y z h1 h2 := by
    unfold ltOf at *
    rw [decide_eq_false_iff_not] at *
    have a1 := h.swap x y
    have a2 := h.swap y z
    have a3 := h.swap x z
    have a4 := h.trans z y x (by omega) (by omega)
    omega
theorem apartO {α : Type} {o : α → α → Int} (h : VOrd.IsOrd o) (x y : α) (h1 : ltOf o x y = false) (h2 : ltOf o y x = false) : x = y := by
  unfold ltOf at *
  rw [decide_eq_false_iff_not] at *
  have a1 := h.swap x y
  exact (h.zero x y).1 (by omega)

/-- one value: kind, number, text -/
abbrev Vl := Int × (Int × ByteArray)
def cellsV (v : Vl) : List Value := [.int .i64 v.1, .int .i64 v.2.1, .string v.2.2]
theorem cellsV_one (v : Vl) : ∀ u ∈ cellsV v, u.oneCell' = true := by
  intro u hu
  simp [cellsV] at hu
  rcases hu with rfl | rfl | rfl <;> rfl
theorem cellsV_len (v : Vl) : (cellsV v).length = 3 := rfl

set_option maxHeartbeats 400000 in
theorem cmpV_grow (x y : Vl) (w : World) :
    Calls Try.prog 27 #[.agg #[.int .i64 x.1, .int .i64 x.2.1, .string x.2.2], .agg #[.int .i64 y.1, .int .i64 y.2.1, .string y.2.2]] w fun e w' => e = .returned (.int .i64 (VOrd.ordT x y)) ∧ ∃ q os', w' = grow (w.drewN q) os' := by
  obtain ⟨k, n, s⟩ := x
  obtain ⟨k', n', s'⟩ := y
  show Calls Try.prog 27 #[.agg #[.int .i64 k, .int .i64 n, .string s], .agg #[.int .i64 k', .int .i64 n', .string s']] w fun e w' => e = .returned (.int .i64 (ordV k n s k' n' s')) ∧ ∃ q os', w' = grow (w.drewN q) os'
  go_enter Try.func27, Try.ntmps27
  go_wp2_with (first | (go_at_call 52; refine (cmpInt_any _ _ _).mono ?_; rintro e w' ⟨rfl, rfl⟩) | (go_at_call 53; refine (cmpI64_any _ _ _).mono ?_; rintro e w' ⟨rfl, rfl⟩) | (go_at_call 54; refine (cmpStr_any _ _ _).mono ?_; rintro e w' ⟨rfl, rfl⟩))
  all_goals go_ret
  all_goals refine ⟨ret_i64 ?_, 0, _, by rw [alloc_eq_grow, alloc_eq_grow, grow_grow]; rfl⟩
  · exact v1 ‹_›
  · exact v2 ‹_› ‹_›
  · exact v3 ‹_› ‹_›
theorem cmpLaysV (blk off size : Nat) (w : World) : CmpLays Try.prog 27 #[] cellsV 3 VOrd.ordT blk off size w :=
  fun _ _ _ _ x y => cmpV_grow x y _

/-- the values, rising -/
def riseV (l : List Vl) : List Vl := l.mergeSort fun x y => !(ltOf VOrd.ordT) y x
theorem sortV_any (g cap : Nat) (l : List Vl) (W : World) (B : Nat) (hr : W.ownsRow B 24 3 (.slice (some ⟨g, 0, none⟩) l.length cap) l.length (l.flatMap cellsV)) (hg : g < W.heap.size) (hl : l.length ≤ 100000) :
    Calls Try.prog 26 #[.slice (some ⟨g, 0, none⟩) l.length cap, .func (.func 27) #[] #[]] W fun e w' =>
      e = .returned (.tuple #[]) ∧ ∃ n os, w' = sortWorldK cellsV 3 W g 0 n (riseV l).toArray os := by
  have eg : ∀ args w, (callFunc 27 args).run Try.prog w = .ok (.enter 27 args) w := enters_of Try.func27 (by kernel_rfl) rfl
  have hcon := AnyQ.slices_SortFunc_total Try.sortVal 3 Try.isAgg24 Try.sizeOf24 cellsV cellsV_len cellsV_one VOrd.ordT (swoO VOrd.ordT_is) 27 #[] g 0 cap l.toArray W eg (cmpLaysV g 0 _ W) (holds_ownG cellsV_len (by decide) hr) hg (by simp; omega) (apartO VOrd.ordT_is)
  exact hcon
end Go.Proofs.Ytkoknogefmfmnaa
