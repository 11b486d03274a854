/-
  CONTRACT: entityMayBe.
-/
import Derived.Test.YtdjdlfndmeegnaaDoorKLeaf
import Derived.Test.YtdjdlfndmeegnaaDoorTNNam
namespace Go.Proofs.YtdjdlfndmeegnaaDoor
open Go.RowKit

def EnS (x : En) : Prop := x.nm.size ≤ 1100 ∧ x.vs.size ≤ 1100
def TmS (x : Tm) : Prop := x.vs.size ≤ 1100 ∧ EnS x.e
def FmS (x : Fm) : Prop := x.a.size ≤ 1100 ∧ EnS x.e ∧ TmS x.v ∧ TmS x.old
theorem leN {n : Nat} (h : n ≤ 1100) : n ≤ maxLen := Nat.le_trans h (by decide)
theorem ent_1 (n : Int) (nm : ByteArray) (vk vn : Int) (vs : ByteArray) : entB ⟨1, n, nm, vk, vn, vs⟩ = (mayB 5 n eB && sameE ⟨1, n, nm, vk, vn, vs⟩ ⟨1, n, eB, 0, 0, eB⟩) := by
  unfold entB; rw [if_pos rfl]
theorem ent_2 (n : Int) (nm : ByteArray) (vk vn : Int) (vs : ByteArray) : entB ⟨2, n, nm, vk, vn, vs⟩ = (namP nm.data.toList && sameE ⟨2, n, nm, vk, vn, vs⟩ ⟨2, 0, nm, 0, 0, eB⟩) := by
  unfold entB; rw [if_neg (show ¬ (2 : Int) = 1 by decide), if_pos rfl]
theorem ent_3 (n : Int) (nm : ByteArray) (vk vn : Int) (vs : ByteArray) : entB ⟨3, n, nm, vk, vn, vs⟩ = (mayB 7 0 nm && (mayB vk vn vs && (n == 0))) := by
  unfold entB; rw [if_neg (show ¬ (3 : Int) = 1 by decide), if_neg (show ¬ (3 : Int) = 2 by decide), if_pos rfl]
theorem ent_x {k : Int} (n : Int) (nm : ByteArray) (vk vn : Int) (vs : ByteArray) (h1 : ¬ k = 1) (h2 : ¬ k = 2) (h3 : ¬ k = 3) : entB ⟨k, n, nm, vk, vn, vs⟩ = false := by
  unfold entB; rw [if_neg h1, if_neg h2, if_neg h3]

set_option maxRecDepth 100000 in
set_option maxHeartbeats 1000000 in
theorem entMay_1 (n : Int) (nm : ByteArray) (vk vn : Int) (vs : ByteArray) (w : World) :
    Calls Tryd.prog 39 #[.agg #[.int .i64 1, .int .i64 n, .string nm, .int .i64 vk, .int .i64 vn, .string vs]] w fun e w' => e = .returned (.bool (entB ⟨1, n, nm, vk, vn, vs⟩)) ∧ Below w.heap.size w w' := by
  rw [ent_1]
  have hq := fun W => eqlE ⟨1, n, nm, vk, vn, vs⟩ ⟨1, n, eB, 0, 0, eB⟩ W
  have HV := Lib.hid (fun W => isValue_any 5 n eB W (by decide))
  obtain ⟨m, hm⟩ : ∃ m, mayB 5 n eB = m := ⟨_, rfl⟩
  obtain ⟨q, hq0⟩ : ∃ q, sameE ⟨1, n, nm, vk, vn, vs⟩ ⟨1, n, eB, 0, 0, eB⟩ = q := ⟨_, rfl⟩
  rw [hm] at HV ⊢
  rw [hq0] at hq ⊢
  simp only [eB] at hq
  clear hm hq0
  have HXs : Hid (Blk (w.alloc (.cells #[.int .i64 1, .int .i64 n, .string nm, .int .i64 vk, .int .i64 vn, .string vs] 25)) w.heap.size #[.int .i64 1, .int .i64 n, .string nm, .int .i64 vk, .int .i64 vn, .string vs] 25) := Blk.new _ _ _
  have HBs : Hid (Below w.heap.size w (w.alloc (.cells #[.int .i64 1, .int .i64 n, .string nm, .int .i64 vk, .int .i64 vn, .string vs] 25))) := (Below.refl _ _).alloc (Nat.le_refl _) _
  cases m
  all_goals
    go_enter Tryd.func39, Tryd.ntmps39
    go_wp2_with fail
    refine (refTo_any n _).mono ?_
    rintro e w1 ⟨rfl, hb⟩
    have HXw1 := Lib.hid (HXs.out.next hb HXs.out.lt)
    have HBw1 := Lib.hid (HBs.out.trans (hb.mono HBs.out.size))
    clear hb
    go_wp2_with fail
    refine (HV.out w1).mono ?_
    rintro e w2 ⟨rfl, hb⟩
    have HXw2 := Lib.hid (HXw1.out.next hb HXw1.out.lt)
    have HBw2 := Lib.hid (HBw1.out.trans (hb.mono HBw1.out.size))
    clear hb
    have c0 : w2.cell? ⟨w.heap.size, 0, none⟩ = some (.int .i64 1) := HXw2.out.cell 0
    have c1 : w2.cell? ⟨w.heap.size, 1, none⟩ = some (.int .i64 n) := HXw2.out.cell 1
    have c2 : w2.cell? ⟨w.heap.size, 2, none⟩ = some (.string nm) := HXw2.out.cell 2
    have c3 : w2.cell? ⟨w.heap.size, 3, none⟩ = some (.int .i64 vk) := HXw2.out.cell 3
    have c4 : w2.cell? ⟨w.heap.size, 4, none⟩ = some (.int .i64 vn) := HXw2.out.cell 4
    have c5 : w2.cell? ⟨w.heap.size, 5, none⟩ = some (.string vs) := HXw2.out.cell 5
    go_wp2
    go_ret
    exact ⟨rfl, HBw2.out⟩

set_option maxRecDepth 100000 in
set_option maxHeartbeats 1000000 in
theorem entMay_2 (n : Int) (nm : ByteArray) (vk vn : Int) (vs : ByteArray) (w : World) (hs : nm.size ≤ 1100) :
    Calls Tryd.prog 39 #[.agg #[.int .i64 2, .int .i64 n, .string nm, .int .i64 vk, .int .i64 vn, .string vs]] w fun e w' => e = .returned (.bool (entB ⟨2, n, nm, vk, vn, vs⟩)) ∧ Below w.heap.size w w' := by
  rw [ent_2]
  have hq := fun W => eqlE ⟨2, n, nm, vk, vn, vs⟩ ⟨2, 0, nm, 0, 0, eB⟩ W
  have HV := Lib.hid (fun W => named_any nm W (by omega))
  obtain ⟨m, hm⟩ : ∃ m, namP nm.data.toList = m := ⟨_, rfl⟩
  obtain ⟨q, hq0⟩ : ∃ q, sameE ⟨2, n, nm, vk, vn, vs⟩ ⟨2, 0, nm, 0, 0, eB⟩ = q := ⟨_, rfl⟩
  rw [hm] at HV ⊢
  rw [hq0] at hq ⊢
  simp only [eB] at hq
  clear hm hq0
  have HXs : Hid (Blk (w.alloc (.cells #[.int .i64 2, .int .i64 n, .string nm, .int .i64 vk, .int .i64 vn, .string vs] 25)) w.heap.size #[.int .i64 2, .int .i64 n, .string nm, .int .i64 vk, .int .i64 vn, .string vs] 25) := Blk.new _ _ _
  have HBs : Hid (Below w.heap.size w (w.alloc (.cells #[.int .i64 2, .int .i64 n, .string nm, .int .i64 vk, .int .i64 vn, .string vs] 25))) := (Below.refl _ _).alloc (Nat.le_refl _) _
  cases m
  all_goals
    go_enter Tryd.func39, Tryd.ntmps39
    go_wp2_with fail
    refine (HV.out _).mono ?_
    rintro e w2 ⟨rfl, hb⟩
    have HXw2 := Lib.hid (HXs.out.next hb HXs.out.lt)
    have HBw2 := Lib.hid (HBs.out.trans (hb.mono HBs.out.size))
    clear hb
    have c0 : w2.cell? ⟨w.heap.size, 0, none⟩ = some (.int .i64 2) := HXw2.out.cell 0
    have c1 : w2.cell? ⟨w.heap.size, 1, none⟩ = some (.int .i64 n) := HXw2.out.cell 1
    have c2 : w2.cell? ⟨w.heap.size, 2, none⟩ = some (.string nm) := HXw2.out.cell 2
    have c3 : w2.cell? ⟨w.heap.size, 3, none⟩ = some (.int .i64 vk) := HXw2.out.cell 3
    have c4 : w2.cell? ⟨w.heap.size, 4, none⟩ = some (.int .i64 vn) := HXw2.out.cell 4
    have c5 : w2.cell? ⟨w.heap.size, 5, none⟩ = some (.string vs) := HXw2.out.cell 5
    go_wp2
    go_ret
    exact ⟨rfl, HBw2.out⟩

set_option maxRecDepth 100000 in
set_option maxHeartbeats 1000000 in
theorem entMay_3 (n : Int) (nm : ByteArray) (vk vn : Int) (vs : ByteArray) (w : World) (hs : nm.size ≤ 1100) (hv : vs.size ≤ 1100) :
    Calls Tryd.prog 39 #[.agg #[.int .i64 3, .int .i64 n, .string nm, .int .i64 vk, .int .i64 vn, .string vs]] w fun e w' => e = .returned (.bool (entB ⟨3, n, nm, vk, vn, vs⟩)) ∧ Below w.heap.size w w' := by
  rw [ent_3]
  have HV := Lib.hid (fun W => isWord_k nm W (leN hs))
  have HU := Lib.hid (fun W => isValue_any vk vn vs W (leN hv))
  obtain ⟨m, hm⟩ : ∃ m, mayB 7 0 nm = m := ⟨_, rfl⟩
  obtain ⟨q, hq0⟩ : ∃ q, mayB vk vn vs = q := ⟨_, rfl⟩
  rw [hm] at HV ⊢
  rw [hq0] at HU ⊢
  clear hm hq0
  have HXs : Hid (Blk (w.alloc (.cells #[.int .i64 3, .int .i64 n, .string nm, .int .i64 vk, .int .i64 vn, .string vs] 25)) w.heap.size #[.int .i64 3, .int .i64 n, .string nm, .int .i64 vk, .int .i64 vn, .string vs] 25) := Blk.new _ _ _
  have HBs : Hid (Below w.heap.size w (w.alloc (.cells #[.int .i64 3, .int .i64 n, .string nm, .int .i64 vk, .int .i64 vn, .string vs] 25))) := (Below.refl _ _).alloc (Nat.le_refl _) _
  cases m
  · go_enter Tryd.func39, Tryd.ntmps39
    go_wp2_with fail
    refine (HV.out _).mono ?_
    rintro e w2 ⟨rfl, hb⟩
    have HXw2 := Lib.hid (HXs.out.next hb HXs.out.lt)
    have HBw2 := Lib.hid (HBs.out.trans (hb.mono HBs.out.size))
    clear hb
    have c0 : w2.cell? ⟨w.heap.size, 0, none⟩ = some (.int .i64 3) := HXw2.out.cell 0
    have c1 : w2.cell? ⟨w.heap.size, 1, none⟩ = some (.int .i64 n) := HXw2.out.cell 1
    have c2 : w2.cell? ⟨w.heap.size, 2, none⟩ = some (.string nm) := HXw2.out.cell 2
    have c3 : w2.cell? ⟨w.heap.size, 3, none⟩ = some (.int .i64 vk) := HXw2.out.cell 3
    have c4 : w2.cell? ⟨w.heap.size, 4, none⟩ = some (.int .i64 vn) := HXw2.out.cell 4
    have c5 : w2.cell? ⟨w.heap.size, 5, none⟩ = some (.string vs) := HXw2.out.cell 5
    go_wp2
    go_ret
    exact ⟨rfl, HBw2.out⟩
  · cases q
    all_goals
      go_enter Tryd.func39, Tryd.ntmps39
      go_wp2_with fail
      refine (HV.out _).mono ?_
      rintro e w2 ⟨rfl, hb⟩
      have HXw2 := Lib.hid (HXs.out.next hb HXs.out.lt)
      have HBw2 := Lib.hid (HBs.out.trans (hb.mono HBs.out.size))
      clear hb
      have c0 : w2.cell? ⟨w.heap.size, 0, none⟩ = some (.int .i64 3) := HXw2.out.cell 0
      have c1 : w2.cell? ⟨w.heap.size, 1, none⟩ = some (.int .i64 n) := HXw2.out.cell 1
      have c2 : w2.cell? ⟨w.heap.size, 2, none⟩ = some (.string nm) := HXw2.out.cell 2
      have c3 : w2.cell? ⟨w.heap.size, 3, none⟩ = some (.int .i64 vk) := HXw2.out.cell 3
      have c4 : w2.cell? ⟨w.heap.size, 4, none⟩ = some (.int .i64 vn) := HXw2.out.cell 4
      have c5 : w2.cell? ⟨w.heap.size, 5, none⟩ = some (.string vs) := HXw2.out.cell 5
      go_wp2_with fail
      refine (HU.out _).mono ?_
      rintro e w3 ⟨rfl, hb⟩
      have HXw3 := Lib.hid (HXw2.out.next hb HXw2.out.lt)
      have HBw3 := Lib.hid (HBw2.out.trans (hb.mono HBw2.out.size))
      clear hb
      clear c0 c1 c2 c3 c4 c5
      have c0 : w3.cell? ⟨w.heap.size, 0, none⟩ = some (.int .i64 3) := HXw3.out.cell 0
      have c1 : w3.cell? ⟨w.heap.size, 1, none⟩ = some (.int .i64 n) := HXw3.out.cell 1
      have c2 : w3.cell? ⟨w.heap.size, 2, none⟩ = some (.string nm) := HXw3.out.cell 2
      have c3 : w3.cell? ⟨w.heap.size, 3, none⟩ = some (.int .i64 vk) := HXw3.out.cell 3
      have c4 : w3.cell? ⟨w.heap.size, 4, none⟩ = some (.int .i64 vn) := HXw3.out.cell 4
      have c5 : w3.cell? ⟨w.heap.size, 5, none⟩ = some (.string vs) := HXw3.out.cell 5
      go_wp2
      go_ret
      exact ⟨rfl, HBw3.out⟩

set_option maxRecDepth 100000 in
set_option maxHeartbeats 1000000 in
theorem entMay_x (k n : Int) (nm : ByteArray) (vk vn : Int) (vs : ByteArray) (w : World) (h1 : ¬ k = 1) (h2 : ¬ k = 2) (h3 : ¬ k = 3) :
    Calls Tryd.prog 39 #[.agg #[.int .i64 k, .int .i64 n, .string nm, .int .i64 vk, .int .i64 vn, .string vs]] w fun e w' => e = .returned (.bool (entB ⟨k, n, nm, vk, vn, vs⟩)) ∧ Below w.heap.size w w' := by
  rw [ent_x n nm vk vn vs h1 h2 h3]
  go_enter Tryd.func39, Tryd.ntmps39
  go_wp2
  go_ret
  exact ⟨rfl, (Below.refl _ _).alloc (Nat.le_refl _) _⟩
/-- CONTRACT: entityMayBe. -/
theorem entMay_any (x : En) (w : World) (hx : EnS x) :
    Calls Tryd.prog 39 #[.agg #[.int .i64 x.k, .int .i64 x.n, .string x.nm, .int .i64 x.vk, .int .i64 x.vn, .string x.vs]] w fun e w' => e = .returned (.bool (entB x)) ∧ Below w.heap.size w w' := by
  obtain ⟨k, n, nm, vk, vn, vs⟩ := x
  by_cases h1 : k = 1
  · subst h1; exact entMay_1 n nm vk vn vs w
  by_cases h2 : k = 2
  · subst h2; exact entMay_2 n nm vk vn vs w hx.1
  by_cases h3 : k = 3
  · subst h3; exact entMay_3 n nm vk vn vs w hx.1 hx.2
  exact entMay_x k n nm vk vn vs w h1 h2 h3

end Go.Proofs.YtdjdlfndmeegnaaDoor
