/-
  CONTRACT: the document's entity.
-/
import Derived.Test.YtdjdlfndmeegnaaDoorKEnt
import Derived.Test.YtdjdlfndmeegnaaDoorTNRef
namespace Go.Proofs.YtdjdlfndmeegnaaDoor
open Go.RowKit

theorem eB_list : eB.toList = [] := by rw [ByteArray.toList_eq]; rfl
theorem may5 (n : Int) : mayB 5 n eB = (decide (0 ≤ n) && decide (n < 9007199254740992)) := by
  show (decide (eB.size = 0) && decide (0 ≤ n ∧ n < 9007199254740992)) = _
  rw [show decide (eB.size = 0) = true from rfl, Bool.true_and, Bool.decide_and]
theorem ent_1' (n : Int) (nm : ByteArray) (vk vn : Int) (vs : ByteArray) : entB ⟨1, n, nm, vk, vn, vs⟩ = (sameV vk vn vs 0 0 eB && (decide (nm.toList = []) && (decide (0 ≤ n) && decide (n < 9007199254740992)))) := by
  rw [ent_1, may5]
  unfold sameE
  rw [eB_list]
  simp only [beq_self_eq_true, Bool.true_and]
  rw [show (nm.toList == []) = decide (nm.toList = []) from by cases nm.toList <;> rfl]
  cases sameV vk vn vs 0 0 eB <;> cases decide (nm.toList = []) <;> cases decide (0 ≤ n) <;> cases decide (n < 9007199254740992) <;> rfl
theorem ent_2' (n : Int) (nm : ByteArray) (vk vn : Int) (vs : ByteArray) : entB ⟨2, n, nm, vk, vn, vs⟩ = (sameV vk vn vs 0 0 eB && (decide (n = 0) && namR nm.data.toList)) := by
  rw [ent_2, nam_one]
  unfold sameE
  simp only [beq_self_eq_true, Bool.true_and]
  rw [show (n == 0) = decide (n = 0) from rfl]
  cases sameV vk vn vs 0 0 eB <;> cases decide (n = 0) <;> cases namR nm.data.toList <;> rfl
theorem ent_3' (n : Int) (nm : ByteArray) (vk vn : Int) (vs : ByteArray) : entB ⟨3, n, nm, vk, vn, vs⟩ = (decide (n = 0) && (mayB 7 0 nm && mayB vk vn vs)) := by
  rw [ent_3, show (n == 0) = decide (n = 0) from rfl]
  cases mayB 7 0 nm <;> cases decide (n = 0) <;> cases mayB vk vn vs <;> rfl

set_option maxRecDepth 100000 in
set_option maxHeartbeats 1000000 in
theorem refEnt_1 (n : Int) (nm : ByteArray) (vk vn : Int) (vs : ByteArray) (w : World) :
    Calls Tryd.prog 24 #[.agg #[.int .i64 1, .int .i64 n, .string nm, .int .i64 vk, .int .i64 vn, .string vs]] w fun e w' => e = .returned (.bool (entB ⟨1, n, nm, vk, vn, vs⟩)) ∧ Below w.heap.size w w' := by
  have hq := fun W => eqlV vk vn vs 0 0 eB W
  have HE := Lib.hid (ent_1' n nm vk vn vs)
  obtain ⟨b0, hb0⟩ : ∃ b0, sameV vk vn vs 0 0 eB = b0 := ⟨_, rfl⟩
  rw [hb0] at hq HE
  simp only [eB] at hq
  clear hb0
  cases b0
  · have HR : Hid (entB ⟨1, n, nm, vk, vn, vs⟩ = false) := by show _ = _; rw [HE.out]; rfl
    go_enter Tryd.func24, Tryd.ntmps24
    go_wp2
    go_ret
    exact ⟨by first | (rw [HR.out]; rfl) | (rw [HR.out]; simp [*]), (Below.refl _ _).alloc (Nat.le_refl _) _⟩
  · by_cases hE : nm.toList = []
    · by_cases h0 : 0 ≤ n
      · by_cases h1 : n < 9007199254740992
        · have HR : Hid (entB ⟨1, n, nm, vk, vn, vs⟩ = true) := by show _ = _; rw [HE.out]; simp [hE, h0, h1]
          go_enter Tryd.func24, Tryd.ntmps24
          go_wp2
          go_ret
          exact ⟨by first | (rw [HR.out]; rfl) | (rw [HR.out]; simp [*]), (Below.refl _ _).alloc (Nat.le_refl _) _⟩
        · have HR : Hid (entB ⟨1, n, nm, vk, vn, vs⟩ = false) := by show _ = _; rw [HE.out]; simp [h1]
          go_enter Tryd.func24, Tryd.ntmps24
          go_wp2
          go_ret
          exact ⟨by first | (rw [HR.out]; rfl) | (rw [HR.out]; simp [*]), (Below.refl _ _).alloc (Nat.le_refl _) _⟩
      · have HR : Hid (entB ⟨1, n, nm, vk, vn, vs⟩ = false) := by show _ = _; rw [HE.out]; simp [h0]
        go_enter Tryd.func24, Tryd.ntmps24
        go_wp2
        go_ret
        exact ⟨by first | (rw [HR.out]; rfl) | (rw [HR.out]; simp [*]), (Below.refl _ _).alloc (Nat.le_refl _) _⟩
    · have HR : Hid (entB ⟨1, n, nm, vk, vn, vs⟩ = false) := by show _ = _; rw [HE.out]; simp [hE]
      go_enter Tryd.func24, Tryd.ntmps24
      go_wp2
      go_ret
      exact ⟨by first | (rw [HR.out]; rfl) | (rw [HR.out]; simp [*]), (Below.refl _ _).alloc (Nat.le_refl _) _⟩

set_option maxRecDepth 100000 in
set_option maxHeartbeats 1000000 in
theorem refEnt_2 (n : Int) (nm : ByteArray) (vk vn : Int) (vs : ByteArray) (w : World) (hs : nm.size ≤ 1100) :
    Calls Tryd.prog 24 #[.agg #[.int .i64 2, .int .i64 n, .string nm, .int .i64 vk, .int .i64 vn, .string vs]] w fun e w' => e = .returned (.bool (entB ⟨2, n, nm, vk, vn, vs⟩)) ∧ Below w.heap.size w w' := by
  have hq := fun W => eqlV vk vn vs 0 0 eB W
  have HE := Lib.hid (ent_2' n nm vk vn vs)
  have HN := Lib.hid (fun W => refNamed_any nm W (by omega))
  obtain ⟨b0, hb0⟩ : ∃ b0, sameV vk vn vs 0 0 eB = b0 := ⟨_, rfl⟩
  obtain ⟨b1, hb1⟩ : ∃ b1, namR nm.data.toList = b1 := ⟨_, rfl⟩
  rw [hb0] at hq HE
  rw [hb1] at HN HE
  simp only [eB] at hq
  clear hb0 hb1
  cases b0
  · have HR : Hid (entB ⟨2, n, nm, vk, vn, vs⟩ = false) := by show _ = _; rw [HE.out]; rfl
    go_enter Tryd.func24, Tryd.ntmps24
    go_wp2_with fail
    refine (HN.out _).mono ?_
    rintro e w1 ⟨rfl, rfl⟩
    go_wp2
    go_ret
    exact ⟨by first | (rw [HR.out]; rfl) | (rw [HR.out]; simp [*]), (Below.refl _ _).alloc (Nat.le_refl _) _⟩
  · by_cases h0 : n = 0
    · have HR : Hid (entB ⟨2, n, nm, vk, vn, vs⟩ = b1) := by show _ = _; rw [HE.out]; simp [h0]
      go_enter Tryd.func24, Tryd.ntmps24
      go_wp2_with fail
      refine (HN.out _).mono ?_
      rintro e w1 ⟨rfl, rfl⟩
      go_wp2
      go_ret
      exact ⟨by first | (rw [HR.out]; rfl) | (rw [HR.out]; simp [*]), (Below.refl _ _).alloc (Nat.le_refl _) _⟩
    · have HR : Hid (entB ⟨2, n, nm, vk, vn, vs⟩ = false) := by show _ = _; rw [HE.out]; simp [h0]
      go_enter Tryd.func24, Tryd.ntmps24
      go_wp2_with fail
      refine (HN.out _).mono ?_
      rintro e w1 ⟨rfl, rfl⟩
      go_wp2
      go_ret
      exact ⟨by first | (rw [HR.out]; rfl) | (rw [HR.out]; simp [*]), (Below.refl _ _).alloc (Nat.le_refl _) _⟩

set_option maxRecDepth 100000 in
set_option maxHeartbeats 1000000 in
theorem refEnt_3 (n : Int) (nm : ByteArray) (vk vn : Int) (vs : ByteArray) (w : World) (hs : nm.size ≤ 1100) (hv : vs.size ≤ 1100) :
    Calls Tryd.prog 24 #[.agg #[.int .i64 3, .int .i64 n, .string nm, .int .i64 vk, .int .i64 vn, .string vs]] w fun e w' => e = .returned (.bool (entB ⟨3, n, nm, vk, vn, vs⟩)) ∧ Below w.heap.size w w' := by
  have hq := fun W => eqlV vk vn vs 0 0 eB W
  have HE := Lib.hid (ent_3' n nm vk vn vs)
  have HW := Lib.hid (fun W => refMay_any 7 0 nm W (leN hs))
  have HV := Lib.hid (fun W => refMay_any vk vn vs W (leN hv))
  obtain ⟨b0, hb0⟩ : ∃ b0, mayB 7 0 nm = b0 := ⟨_, rfl⟩
  obtain ⟨b1, hb1⟩ : ∃ b1, mayB vk vn vs = b1 := ⟨_, rfl⟩
  obtain ⟨b2, hb2⟩ : ∃ b2, sameV vk vn vs 0 0 eB = b2 := ⟨_, rfl⟩
  rw [hb0] at HW HE
  rw [hb1] at HV HE
  rw [hb2] at hq
  simp only [eB] at hq
  clear hb0 hb1 hb2
  have HXs : Hid (Blk (w.alloc (.cells #[.int .i64 3, .int .i64 n, .string nm, .int .i64 vk, .int .i64 vn, .string vs] 25)) w.heap.size #[.int .i64 3, .int .i64 n, .string nm, .int .i64 vk, .int .i64 vn, .string vs] 25) := Blk.new _ _ _
  have HBs : Hid (Below w.heap.size w (w.alloc (.cells #[.int .i64 3, .int .i64 n, .string nm, .int .i64 vk, .int .i64 vn, .string vs] 25))) := (Below.refl _ _).alloc (Nat.le_refl _) _
  by_cases h0 : n = 0
  · subst h0
    cases b0
    · have HR : Hid (entB ⟨3, 0, nm, vk, vn, vs⟩ = false) := by show _ = _; rw [HE.out]; simp
      go_enter Tryd.func24, Tryd.ntmps24
      go_wp2_with fail
      refine (HW.out _).mono ?_
      rintro e w2 ⟨rfl, hb⟩
      have HXw2 := Lib.hid (HXs.out.next hb HXs.out.lt)
      have HBw2 := Lib.hid (HBs.out.trans (hb.mono HBs.out.size))
      clear hb
      have c0 : w2.cell? ⟨w.heap.size, 0, none⟩ = some (.int .i64 3) := HXw2.out.cell 0
      have c1 : w2.cell? ⟨w.heap.size, 1, none⟩ = some (.int .i64 0) := HXw2.out.cell 1
      have c2 : w2.cell? ⟨w.heap.size, 2, none⟩ = some (.string nm) := HXw2.out.cell 2
      have c3 : w2.cell? ⟨w.heap.size, 3, none⟩ = some (.int .i64 vk) := HXw2.out.cell 3
      have c4 : w2.cell? ⟨w.heap.size, 4, none⟩ = some (.int .i64 vn) := HXw2.out.cell 4
      have c5 : w2.cell? ⟨w.heap.size, 5, none⟩ = some (.string vs) := HXw2.out.cell 5
      go_wp2_with fail
      refine (HV.out _).mono ?_
      rintro e w3 ⟨rfl, hb⟩
      have HXw3 := Lib.hid (HXw2.out.next hb HXw2.out.lt)
      have HBw3 := Lib.hid (HBw2.out.trans (hb.mono HBw2.out.size))
      clear hb
      clear c0 c1 c2 c3 c4 c5
      have c0 : w3.cell? ⟨w.heap.size, 0, none⟩ = some (.int .i64 3) := HXw3.out.cell 0
      have c1 : w3.cell? ⟨w.heap.size, 1, none⟩ = some (.int .i64 0) := HXw3.out.cell 1
      have c2 : w3.cell? ⟨w.heap.size, 2, none⟩ = some (.string nm) := HXw3.out.cell 2
      have c3 : w3.cell? ⟨w.heap.size, 3, none⟩ = some (.int .i64 vk) := HXw3.out.cell 3
      have c4 : w3.cell? ⟨w.heap.size, 4, none⟩ = some (.int .i64 vn) := HXw3.out.cell 4
      have c5 : w3.cell? ⟨w.heap.size, 5, none⟩ = some (.string vs) := HXw3.out.cell 5
      go_wp2
      go_ret
      exact ⟨by first | (rw [HR.out]; rfl) | (rw [HR.out]; simp [*]), HBw3.out⟩
    · have HR : Hid (entB ⟨3, 0, nm, vk, vn, vs⟩ = b1) := by show _ = _; rw [HE.out]; simp
      go_enter Tryd.func24, Tryd.ntmps24
      go_wp2_with fail
      refine (HW.out _).mono ?_
      rintro e w2 ⟨rfl, hb⟩
      have HXw2 := Lib.hid (HXs.out.next hb HXs.out.lt)
      have HBw2 := Lib.hid (HBs.out.trans (hb.mono HBs.out.size))
      clear hb
      have c0 : w2.cell? ⟨w.heap.size, 0, none⟩ = some (.int .i64 3) := HXw2.out.cell 0
      have c1 : w2.cell? ⟨w.heap.size, 1, none⟩ = some (.int .i64 0) := HXw2.out.cell 1
      have c2 : w2.cell? ⟨w.heap.size, 2, none⟩ = some (.string nm) := HXw2.out.cell 2
      have c3 : w2.cell? ⟨w.heap.size, 3, none⟩ = some (.int .i64 vk) := HXw2.out.cell 3
      have c4 : w2.cell? ⟨w.heap.size, 4, none⟩ = some (.int .i64 vn) := HXw2.out.cell 4
      have c5 : w2.cell? ⟨w.heap.size, 5, none⟩ = some (.string vs) := HXw2.out.cell 5
      go_wp2_with fail
      refine (HV.out _).mono ?_
      rintro e w3 ⟨rfl, hb⟩
      have HXw3 := Lib.hid (HXw2.out.next hb HXw2.out.lt)
      have HBw3 := Lib.hid (HBw2.out.trans (hb.mono HBw2.out.size))
      clear hb
      clear c0 c1 c2 c3 c4 c5
      have c0 : w3.cell? ⟨w.heap.size, 0, none⟩ = some (.int .i64 3) := HXw3.out.cell 0
      have c1 : w3.cell? ⟨w.heap.size, 1, none⟩ = some (.int .i64 0) := HXw3.out.cell 1
      have c2 : w3.cell? ⟨w.heap.size, 2, none⟩ = some (.string nm) := HXw3.out.cell 2
      have c3 : w3.cell? ⟨w.heap.size, 3, none⟩ = some (.int .i64 vk) := HXw3.out.cell 3
      have c4 : w3.cell? ⟨w.heap.size, 4, none⟩ = some (.int .i64 vn) := HXw3.out.cell 4
      have c5 : w3.cell? ⟨w.heap.size, 5, none⟩ = some (.string vs) := HXw3.out.cell 5
      go_wp2
      go_ret
      exact ⟨by first | (rw [HR.out]; rfl) | (rw [HR.out]; simp [*]), HBw3.out⟩
  · have HR : Hid (entB ⟨3, n, nm, vk, vn, vs⟩ = false) := by show _ = _; rw [HE.out]; simp [h0]
    go_enter Tryd.func24, Tryd.ntmps24
    go_wp2_with fail
    refine (HW.out _).mono ?_
    rintro e w2 ⟨rfl, hb⟩
    have HXw2 := Lib.hid (HXs.out.next hb HXs.out.lt)
    have HBw2 := Lib.hid (HBs.out.trans (hb.mono HBs.out.size))
    clear hb
    have c0 : w2.cell? ⟨w.heap.size, 0, none⟩ = some (.int .i64 3) := HXw2.out.cell 0
    have c1 : w2.cell? ⟨w.heap.size, 1, none⟩ = some (.int .i64 n) := HXw2.out.cell 1
    have c2 : w2.cell? ⟨w.heap.size, 2, none⟩ = some (.string nm) := HXw2.out.cell 2
    have c3 : w2.cell? ⟨w.heap.size, 3, none⟩ = some (.int .i64 vk) := HXw2.out.cell 3
    have c4 : w2.cell? ⟨w.heap.size, 4, none⟩ = some (.int .i64 vn) := HXw2.out.cell 4
    have c5 : w2.cell? ⟨w.heap.size, 5, none⟩ = some (.string vs) := HXw2.out.cell 5
    go_wp2_with fail
    refine (HV.out _).mono ?_
    rintro e w3 ⟨rfl, hb⟩
    have HXw3 := Lib.hid (HXw2.out.next hb HXw2.out.lt)
    have HBw3 := Lib.hid (HBw2.out.trans (hb.mono HBw2.out.size))
    clear hb
    clear c0 c1 c2 c3 c4 c5
    have c0 : w3.cell? ⟨w.heap.size, 0, none⟩ = some (.int .i64 3) := HXw3.out.cell 0
    have c1 : w3.cell? ⟨w.heap.size, 1, none⟩ = some (.int .i64 n) := HXw3.out.cell 1
    have c2 : w3.cell? ⟨w.heap.size, 2, none⟩ = some (.string nm) := HXw3.out.cell 2
    have c3 : w3.cell? ⟨w.heap.size, 3, none⟩ = some (.int .i64 vk) := HXw3.out.cell 3
    have c4 : w3.cell? ⟨w.heap.size, 4, none⟩ = some (.int .i64 vn) := HXw3.out.cell 4
    have c5 : w3.cell? ⟨w.heap.size, 5, none⟩ = some (.string vs) := HXw3.out.cell 5
    go_wp2
    go_ret
    exact ⟨by first | (rw [HR.out]; rfl) | (rw [HR.out]; simp [*]), HBw3.out⟩

set_option maxRecDepth 100000 in
set_option maxHeartbeats 1000000 in
theorem refEnt_x (k : Int) (n : Int) (nm : ByteArray) (vk vn : Int) (vs : ByteArray) (w : World) (h1 : ¬ k = 1) (h2 : ¬ k = 2) (h3 : ¬ k = 3) :
    Calls Tryd.prog 24 #[.agg #[.int .i64 k, .int .i64 n, .string nm, .int .i64 vk, .int .i64 vn, .string vs]] w fun e w' => e = .returned (.bool (entB ⟨k, n, nm, vk, vn, vs⟩)) ∧ Below w.heap.size w w' := by
  rw [ent_x n nm vk vn vs h1 h2 h3]
  have hq := fun W => eqlV vk vn vs 0 0 eB W
  obtain ⟨b2, hb2⟩ : ∃ b2, sameV vk vn vs 0 0 eB = b2 := ⟨_, rfl⟩
  rw [hb2] at hq
  simp only [eB] at hq
  go_enter Tryd.func24, Tryd.ntmps24
  go_wp2
  go_ret
  exact ⟨rfl, (Below.refl _ _).alloc (Nat.le_refl _) _⟩
/-- CONTRACT: the document's entity. -/
theorem refEnt_any (x : En) (w : World) (hx : EnS x) :
    Calls Tryd.prog 24 #[.agg #[.int .i64 x.k, .int .i64 x.n, .string x.nm, .int .i64 x.vk, .int .i64 x.vn, .string x.vs]] w fun e w' => e = .returned (.bool (entB x)) ∧ Below w.heap.size w w' := by
  obtain ⟨k, n, nm, vk, vn, vs⟩ := x
  by_cases h1 : k = 1
  · subst h1; exact refEnt_1 n nm vk vn vs w
  by_cases h2 : k = 2
  · subst h2; exact refEnt_2 n nm vk vn vs w hx.1
  by_cases h3 : k = 3
  · subst h3; exact refEnt_3 n nm vk vn vs w hx.1 hx.2
  exact refEnt_x k n nm vk vn vs w h1 h2 h3

end Go.Proofs.YtdjdlfndmeegnaaDoor
