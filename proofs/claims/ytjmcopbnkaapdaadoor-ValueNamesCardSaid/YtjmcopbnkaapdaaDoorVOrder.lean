/-
  THE LAW ValueOrder: its walk.
-/
import Derived.Test.YtjmcopbnkaapdaaDoorAlive
import Derived.Test.YtjmcopbnkaapdaaDoorOrder
import Derived.Test.YtjmcopbnkaapdaaDoorOrd
import Derived.Laws.StructEq
namespace Go.Proofs.YtjmcopbnkaapdaaDoor
open Go.RowKit Go.Shelf

/-- '==' of two values. -/
def eqB (k n : Int) (s : ByteArray) (k' n' : Int) (s' : ByteArray) : Bool := (k == k') && (n == n') && (s.toList == s'.toList)
theorem eqV (k n : Int) (s : ByteArray) (k' n' : Int) (s' : ByteArray) (w : World) : (binOp .eql 23 (.agg #[.int .i64 k, .int .i64 n, .string s]) (.agg #[.int .i64 k', .int .i64 n', .string s'])).run Tryd.prog w = .ok (.bool (eqB k n s k' n' s')) w := by
  have u3 := Tryd.underlying3
  have u2 := Tryd.underlying2
  have u9 := Tryd.underlying9
  have a3 := Tryd.isAgg3
  have a2 := Tryd.isAgg2
  have a9 := Tryd.isAgg9
  have hS : Tryd.prog.underlying 23 = some (.struct (Tryd.prog.fieldsOf 23)) := by kernel_rfl
  have hp : Tryd.prog.stoodInHeld 23 = false := by kernel_rfl
  rw [run_eql_struct, show (10000 : Nat) = 9999 + 1 from rfl, run_equalIn_agg w 9999 23 _ _ hS hp]
  simp only [Program.fieldsOf, Tryd.underlying23]
  go_simp
  unfold eqB
  by_cases h1 : k = k' <;> by_cases h2 : n = n' <;> by_cases h3 : s.toList = s'.toList <;> simp [h1, h2, h3]

theorem eqB_true {k n : Int} {s : ByteArray} {k' n' : Int} {s' : ByteArray} : eqB k n s k' n' s' = true ↔ ((k, n, s) : Int × Int × ByteArray) = (k', n', s') := by
  unfold eqB
  rw [ByteArray.toList_eq, ByteArray.toList_eq]
  simp only [Bool.and_eq_true, beq_iff_eq, Prod.mk.injEq]
  constructor
  · rintro ⟨⟨h1, h2⟩, h3⟩; exact ⟨h1, h2, ByteArray.ext (Array.toList_inj.1 h3)⟩
  · rintro ⟨h1, h2, h3⟩; exact ⟨⟨h1, h2⟩, by rw [h3]⟩

/-- A block of three cells of the call's own. -/
structure Box3 (W : World) (b : Nat) (x y z : Value) : Prop where
  c0 : W.cell? ⟨b, 0, none⟩ = some x
  c1 : W.cell? ⟨b, 1, none⟩ = some y
  c2 : W.cell? ⟨b, 2, none⟩ = some z
theorem Box3.next {W W' : World} {b : Nat} {x y z : Value} (h : Box3 W b x y z) {B : Nat} (hb : Below B W W') (hl : b < B) : Box3 W' b x y z :=
  ⟨(hb.cell (p := ⟨b, 0, none⟩) hl).trans h.c0, (hb.cell (p := ⟨b, 1, none⟩) hl).trans h.c1, (hb.cell (p := ⟨b, 2, none⟩) hl).trans h.c2⟩
theorem box3_new (w : World) (x y z : Value) (t : TypeId) : Box3 (w.alloc (.cells #[x, y, z] t)) w.heap.size x y z :=
  ⟨by go_simp, by go_simp, by go_simp⟩

/-- Three such blocks, and what was there ahead lies. -/
structure S9 (w : World) (a0 a1 a2 b0 b1 b2 c0 c1 c2 : Value) (W : World) : Prop where
  a : Box3 W w.heap.size a0 a1 a2
  b : Box3 W (w.heap.size + 1) b0 b1 b2
  c : Box3 W (w.heap.size + 2) c0 c1 c2
  low : Below w.heap.size w W
  size : w.heap.size + 3 ≤ W.heap.size
theorem s9_new (w : World) (a0 a1 a2 b0 b1 b2 c0 c1 c2 : Value) (t : TypeId) : S9 w a0 a1 a2 b0 b1 b2 c0 c1 c2 (((w.alloc (.cells #[a0, a1, a2] t)).alloc (.cells #[b0, b1, b2] t)).alloc (.cells #[c0, c1, c2] t)) := by
  have h1 := box3_new w a0 a1 a2 t
  have h2 := box3_new (w.alloc (.cells #[a0, a1, a2] t)) b0 b1 b2 t
  have h3 := box3_new ((w.alloc (.cells #[a0, a1, a2] t)).alloc (.cells #[b0, b1, b2] t)) c0 c1 c2 t
  rw [World.size_alloc] at h2
  rw [World.size_alloc, World.size_alloc] at h3
  refine ⟨(h1.next ((Below.refl _ _).alloc (Nat.le_refl _) _) (by simp)).next ((Below.refl _ _).alloc (Nat.le_refl _) _) (by simp; omega), h2.next ((Below.refl _ _).alloc (Nat.le_refl _) _) (by simp), h3, (((Below.refl _ _).alloc (Nat.le_refl _) _).alloc (by simp) _).alloc (by simp; omega) _, by simp⟩
theorem S9.next {w W W' : World} {a0 a1 a2 b0 b1 b2 c0 c1 c2 : Value} (h : S9 w a0 a1 a2 b0 b1 b2 c0 c1 c2 W) (hb : Below W.heap.size W W') : S9 w a0 a1 a2 b0 b1 b2 c0 c1 c2 W' := by
  have hz := h.size
  exact ⟨h.a.next hb (by omega), h.b.next hb (by omega), h.c.next hb (by omega), h.low.trans (hb.mono (by omega)), by have := hb.size; omega⟩

set_option maxRecDepth 100000 in
set_option maxHeartbeats 1000000 in
theorem order_big (k n : Int) (s : ByteArray) (k' n' : Int) (s' : ByteArray) (k'' n'' : Int) (s'' : ByteArray) (w : World) (htab : Tab w) (hl : 5000 < s.size ∨ 5000 < s'.size ∨ 5000 < s''.size) :
    Calls Tryd.prog 6 #[.agg #[.int .i64 k, .int .i64 n, .string s], .agg #[.int .i64 k', .int .i64 n', .string s'], .agg #[.int .i64 k'', .int .i64 n'', .string s'']] w fun e w' => e = .returned (.bool true) ∧ Below w.heap.size w w' := by
  have g0 := s9_new w (.int .i64 k) (.int .i64 n) (.string s) (.int .i64 k') (.int .i64 n') (.string s') (.int .i64 k'') (.int .i64 n'') (.string s'') 23
  have ht := tab_below (W := ((w.alloc (.cells #[.int .i64 k, .int .i64 n, .string s] 23)).alloc (.cells #[.int .i64 k', .int .i64 n', .string s'] 23)).alloc (.cells #[.int .i64 k'', .int .i64 n'', .string s''] 23)) htab g0.low
  have HT := Lib.hid ht
  clear ht htab
  by_cases h1 : 5000 < (s.size : Int)
  · clear hl
    go_enter Tryd.func6, Tryd.ntmps6
    go_wp2_with fail
    refine (alive_any _ HT.out).mono ?_
    rintro e w1 ⟨rfl, hb1⟩
    have g1 := g0.next hb1
    have e2 := g1.a.c2
    clear g0 hb1
    go_wp2
    go_ret
    exact ⟨rfl, g1.low⟩
  · by_cases h2 : 5000 < (s'.size : Int)
    · clear hl
      go_enter Tryd.func6, Tryd.ntmps6
      go_wp2_with fail
      refine (alive_any _ HT.out).mono ?_
      rintro e w1 ⟨rfl, hb1⟩
      have g1 := g0.next hb1
      have e2 := g1.a.c2
      have e5 := g1.b.c2
      clear g0 hb1
      go_wp2
      go_ret
      exact ⟨rfl, g1.low⟩
    · have h3 : 5000 < (s''.size : Int) := by omega
      clear hl
      go_enter Tryd.func6, Tryd.ntmps6
      go_wp2_with fail
      refine (alive_any _ HT.out).mono ?_
      rintro e w1 ⟨rfl, hb1⟩
      have g1 := g0.next hb1
      have e2 := g1.a.c2
      have e5 := g1.b.c2
      have e8 := g1.c.c2
      clear g0 hb1
      go_wp2
      go_ret
      exact ⟨rfl, g1.low⟩

set_option maxRecDepth 100000 in
set_option maxHeartbeats 4000000 in
theorem order_small (k n : Int) (s : ByteArray) (k' n' : Int) (s' : ByteArray) (k'' n'' : Int) (s'' : ByteArray) (w : World) (htab : Tab w) (h1 : (s.size : Int) ≤ 5000) (h2 : (s'.size : Int) ≤ 5000) (h3 : (s''.size : Int) ≤ 5000)
    (x y z x' : Int) (q : Bool) (hx : ordV k n s k' n' s' = x) (hy : ordV k' n' s' k'' n'' s'' = y) (hz : ordV k n s k'' n'' s'' = z) (hx' : ordV k' n' s' k n s = x') (hq : eqB k n s k' n' s' = q)
    (hb1 : (x == -x') = true) (hb2 : ((x == 0) == q) = true) (r1 : -1 ≤ x) (r2 : x ≤ 1) (r3 : -1 ≤ y) (r4 : y ≤ 1) (r5 : -1 ≤ z) (r6 : z ≤ 1) (r7 : -1 ≤ x') (r8 : x' ≤ 1)
    (hc : Hid (0 < x ∨ (x ≤ 0 ∧ 0 < y) ∨ (x ≤ 0 ∧ y ≤ 0 ∧ z < 0) ∨ (0 ≤ x ∧ x ≤ 0 ∧ 0 ≤ y ∧ y ≤ 0 ∧ z ≤ 0))) :
    Calls Tryd.prog 6 #[.agg #[.int .i64 k, .int .i64 n, .string s], .agg #[.int .i64 k', .int .i64 n', .string s'], .agg #[.int .i64 k'', .int .i64 n'', .string s'']] w fun e w' => e = .returned (.bool true) ∧ Below w.heap.size w w' := by
  have g0 := s9_new w (.int .i64 k) (.int .i64 n) (.string s) (.int .i64 k') (.int .i64 n') (.string s') (.int .i64 k'') (.int .i64 n'') (.string s'') 23
  have ht := tab_below (W := ((w.alloc (.cells #[.int .i64 k, .int .i64 n, .string s] 23)).alloc (.cells #[.int .i64 k', .int .i64 n', .string s'] 23)).alloc (.cells #[.int .i64 k'', .int .i64 n'', .string s''] 23)) htab g0.low
  have HT := Lib.hid ht
  have HX := Lib.hid hx
  have HY := Lib.hid hy
  have HZ := Lib.hid hz
  have HX' := Lib.hid hx'
  have hE := fun w => eqV k n s k' n' s' w
  rw [hq] at hE
  have hgd : Tryd.prog.eqGuardType Tryd.prog.depth 23 = false := by kernel_rfl
  clear ht htab hx hy hz hx' hq
  go_enter Tryd.func6, Tryd.ntmps6
  go_wp2_with fail
  refine (alive_any _ HT.out).mono ?_
  rintro e w1 ⟨rfl, hb1⟩
  have g1 := g0.next hb1
  clear g0 hb1
  have e0 := g1.a.c0
  have e1 := g1.a.c1
  have e2 := g1.a.c2
  have e3 := g1.b.c0
  have e4 := g1.b.c1
  have e5 := g1.b.c2
  have e8 := g1.c.c2
  go_wp2_with fail
  refine (compare_any _ _ _ _ _ _ _).mono ?_
  rintro e w2 ⟨he, hb2⟩
  rw [HX.out] at he
  subst he
  have g2 := g1.next hb2
  clear g1 hb2 e0 e1 e2 e3 e4 e5 e8
  have e3 := g2.b.c0
  have e4 := g2.b.c1
  have e5 := g2.b.c2
  have e6 := g2.c.c0
  have e7 := g2.c.c1
  have e8 := g2.c.c2
  go_wp2_with fail
  refine (compare_any _ _ _ _ _ _ _).mono ?_
  rintro e w3 ⟨he, hb3⟩
  rw [HY.out] at he
  subst he
  have g3 := g2.next hb3
  clear g2 hb3 e3 e4 e5 e6 e7 e8
  have e0 := g3.a.c0
  have e1 := g3.a.c1
  have e2 := g3.a.c2
  have e6 := g3.c.c0
  have e7 := g3.c.c1
  have e8 := g3.c.c2
  go_wp2_with fail
  refine (compare_any _ _ _ _ _ _ _).mono ?_
  rintro e w4 ⟨he, hb4⟩
  rw [HZ.out] at he
  subst he
  have g4 := g3.next hb4
  clear g3 hb4 e0 e1 e2 e6 e7 e8
  have e0 := g4.a.c0
  have e1 := g4.a.c1
  have e2 := g4.a.c2
  have e3 := g4.b.c0
  have e4 := g4.b.c1
  have e5 := g4.b.c2
  go_wp2_with fail
  refine (compare_any _ _ _ _ _ _ _).mono ?_
  rintro e w5 ⟨he, hb5⟩
  rw [HX'.out] at he
  subst he
  have g5 := g4.next hb5
  clear g4 hb5 e0 e1 e2 e3 e4 e5
  have e0 := g5.a.c0
  have e1 := g5.a.c1
  have e2 := g5.a.c2
  have e3 := g5.b.c0
  have e4 := g5.b.c1
  have e5 := g5.b.c2
  have hc' := hc.out
  clear hc
  rcases hc' with c1 | ⟨c1, c2⟩ | ⟨c1, c2, c3⟩ | ⟨c1, c2, c3, c4, c5⟩
  · go_wp2
    go_ret
    exact ⟨ret_bool (by first | rfl | (simp; omega)), g5.low⟩
  · rcases Int.lt_or_le x 0 with c3 | c3
    · go_wp2
      go_ret
      exact ⟨ret_bool (by first | rfl | (simp; omega)), g5.low⟩
    · go_wp2
      go_ret
      exact ⟨ret_bool (by first | rfl | (simp; omega)), g5.low⟩
  · rcases Int.lt_or_le x 0 with c4 | c4
    · rcases Int.lt_or_le y 0 with c5 | c5
      · go_wp2
        go_ret
        exact ⟨ret_bool (by first | rfl | (simp; omega)), g5.low⟩
      · go_wp2
        go_ret
        exact ⟨ret_bool (by first | rfl | (simp; omega)), g5.low⟩
    · rcases Int.lt_or_le y 0 with c5 | c5
      · go_wp2
        go_ret
        exact ⟨ret_bool (by first | rfl | (simp; omega)), g5.low⟩
      · go_wp2
        go_ret
        exact ⟨ret_bool (by first | rfl | (simp; omega)), g5.low⟩
  · go_wp2
    go_ret
    exact ⟨ret_bool (by first | rfl | (simp; omega)), g5.low⟩

theorem order_any (k n : Int) (s : ByteArray) (k' n' : Int) (s' : ByteArray) (k'' n'' : Int) (s'' : ByteArray) (w : World) (htab : Tab w) :
    Calls Tryd.prog 6 #[.agg #[.int .i64 k, .int .i64 n, .string s], .agg #[.int .i64 k', .int .i64 n', .string s'], .agg #[.int .i64 k'', .int .i64 n'', .string s'']] w fun e w' => e = .returned (.bool true) ∧ Below w.heap.size w w' := by
  by_cases hl : 5000 < s.size ∨ 5000 < s'.size ∨ 5000 < s''.size
  · exact order_big k n s k' n' s' k'' n'' s'' w htab hl
  · have o1 : ordV k n s k' n' s' = ordT (k, n, s) (k', n', s') := rfl
    have o2 : ordV k' n' s' k'' n'' s'' = ordT (k', n', s') (k'', n'', s'') := rfl
    have o3 : ordV k n s k'' n'' s'' = ordT (k, n, s) (k'', n'', s'') := rfl
    have o4 : ordV k' n' s' k n s = ordT (k', n', s') (k, n, s) := rfl
    have a1 := ordT_is.range (k, n, s) (k', n', s')
    have a2 := ordT_is.range (k', n', s') (k'', n'', s'')
    have a3 := ordT_is.range (k, n, s) (k'', n'', s'')
    have a4 := ordT_is.swap (k, n, s) (k', n', s')
    have a5 := ordT_is.zero (k, n, s) (k', n', s')
    have a6 := ordT_is.zero (k', n', s') (k'', n'', s'')
    have b1 := ordT_is.trans (k, n, s) (k', n', s') (k'', n'', s'')
    have b2 := @IsOrd.lt _ _ ordT_is (k, n, s) (k', n', s') (k'', n'', s'')
    have b3 := @IsOrd.lt' _ _ ordT_is (k, n, s) (k', n', s') (k'', n'', s'')
    have a5' := @eqB_true k n s k' n' s'
    rw [← a5] at a5'
    refine order_small k n s k' n' s' k'' n'' s'' w htab (by omega) (by omega) (by omega) _ _ _ _ (eqB k n s k' n' s') o1 o2 o3 o4 rfl ?_ ?_ (by omega) (by omega) (by omega) (by omega) (by omega) (by omega) (by omega) (by omega) ?_
    · rw [beq_iff_eq]; omega
    · cases hq : eqB k n s k' n' s'
      · have : ¬ ordT (k, n, s) (k', n', s') = 0 := by rw [← a5', hq]; simp
        simp [this]
      · have : ordT (k, n, s) (k', n', s') = 0 := by rw [← a5', hq]
        simp [this]
    · show _ ∨ _
      generalize ordT (k, n, s) (k', n', s') = x at *
      generalize ordT (k', n', s') (k'', n'', s'') = y at *
      generalize ordT (k, n, s) (k'', n'', s'') = z at *
      omega

end Go.Proofs.YtjmcopbnkaapdaaDoor
