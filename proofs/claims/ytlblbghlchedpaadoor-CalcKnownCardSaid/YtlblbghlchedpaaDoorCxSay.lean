/-
  CONTRACTS: what a predicate says of two values (the program's says and its helpers).
-/
import Derived.Test.YtlblbghlchedpaaDoorCxV
import Derived.Test.YtlblbghlchedpaaDoorOrd
import Derived.Test.YtlblbghlchedpaaDoorMay
import Derived.Test.YtlblbghlchedpaaDoorShelf
import Derived.Lib.IndexMore
namespace Go.Proofs.YtlblbghlchedpaaDoor
open Go.RowKit Go.Shelf

abbrev agV (a : Cv) : Value := .agg #[.int .i64 a.1, .int .i64 a.2.1, .string a.2.2]
theorem index_ge : ∀ (s p : Bt), -1 ≤ Lib.index s p
  | [], p => by unfold Lib.index; split <;> decide
  | b :: l, p => by
    have := index_ge l p
    unfold Lib.index
    split
    · decide
    · split
      · decide
      · omega
theorem contains_has : ∀ (s p : Bt), Lib.contains s p = hasL s p
  | [], p => by
    unfold Lib.contains Lib.index hasL
    cases p.isEmpty <;> rfl
  | b :: l, p => by
    have ih := contains_has l p
    have hg := index_ge l p
    unfold Lib.contains at ih ⊢
    unfold Lib.index hasL
    rw [← ih]
    cases h : p.isPrefixOf (b :: l)
    · simp only [Bool.false_or, Bool.false_eq_true, if_false]
      by_cases h2 : Lib.index l p = -1
      · rw [h2]; simp
      · have : (Lib.index l p == -1) = false := beq_eq_false_iff_ne.2 h2
        rw [this]
        simp only [Bool.false_eq_true, if_false, decide_eq_decide]
        omega
    · simp
/-- the library's variable is a number -/
def MaxAt (W : World) : Prop := ∃ m : Int, W.cell? ⟨1, 0, none⟩ = some (.int .i64 m)
theorem MaxAt.next {W W' : World} (h : MaxAt W) (hb : Below W.heap.size W W') : MaxAt W' := by
  obtain ⟨m, hm⟩ := h
  refine ⟨m, (hb.cell (p := ⟨_, 0, none⟩) ?_).trans hm⟩
  unfold World.cell? at hm
  simp only at hm
  cases hh : W.heap[1]? with
  | none => rw [hh] at hm; cases hm
  | some o => exact (Array.getElem?_eq_some_iff.1 hh).1
set_option maxHeartbeats 400000 in
theorem hasBytes_any (k : Int) (w : World) :
    Calls Tryd.prog 24 #[.int .i64 k] w fun e w' => e = .returned (.bool (bytK k)) ∧ w = w' := by
  by_cases h3 : k = 3
  · subst h3
    go_enter Tryd.func24, Tryd.ntmps24
    go_wp2
    go_ret
    exact ⟨rfl, rfl⟩
  by_cases h4 : k = 4
  · subst h4
    go_enter Tryd.func24, Tryd.ntmps24
    go_wp2
    go_ret
    exact ⟨rfl, rfl⟩
  have b3 : (k == 3) = false := beq_eq_false_iff_ne.2 h3
  have b4 : (k == 4) = false := beq_eq_false_iff_ne.2 h4
  have HE : Hid (bytK k = (k == 7)) := by show _ = _; unfold bytK; rw [b3, b4]; rfl
  clear h3 h4
  go_enter Tryd.func24, Tryd.ntmps24
  go_wp2
  go_ret
  exact ⟨ret_bool (by rw [HE.out]), rfl⟩
set_option maxHeartbeats 400000 in
theorem so_eq (x : Int) (w : World) :
    Calls Tryd.prog 26 #[.string ⟨#[61]⟩, .int .i64 x] w fun e w' => e = .returned (.bool ((x == 0))) ∧ w = w' := by
  go_enter Tryd.func26, Tryd.ntmps26
  go_wp2
  go_ret
  exact ⟨by first | rfl | exact ret_bool (by simp), rfl⟩
set_option maxHeartbeats 400000 in
theorem so_ne (x : Int) (w : World) :
    Calls Tryd.prog 26 #[.string ⟨#[33, 61]⟩, .int .i64 x] w fun e w' => e = .returned (.bool ((x != 0))) ∧ w = w' := by
  go_enter Tryd.func26, Tryd.ntmps26
  go_wp2
  go_ret
  exact ⟨by first | rfl | exact ret_bool (by simp), rfl⟩
set_option maxHeartbeats 400000 in
theorem so_lt (x : Int) (w : World) :
    Calls Tryd.prog 26 #[.string ⟨#[60]⟩, .int .i64 x] w fun e w' => e = .returned (.bool (decide (x < 0))) ∧ w = w' := by
  go_enter Tryd.func26, Tryd.ntmps26
  go_wp2
  go_ret
  exact ⟨by first | rfl | exact ret_bool (by simp), rfl⟩
set_option maxHeartbeats 400000 in
theorem so_le (x : Int) (w : World) :
    Calls Tryd.prog 26 #[.string ⟨#[60, 61]⟩, .int .i64 x] w fun e w' => e = .returned (.bool (decide (x ≤ 0))) ∧ w = w' := by
  go_enter Tryd.func26, Tryd.ntmps26
  go_wp2
  go_ret
  exact ⟨by first | rfl | exact ret_bool (by simp), rfl⟩
set_option maxHeartbeats 400000 in
theorem so_gt (x : Int) (w : World) :
    Calls Tryd.prog 26 #[.string ⟨#[62]⟩, .int .i64 x] w fun e w' => e = .returned (.bool (decide (0 < x))) ∧ w = w' := by
  go_enter Tryd.func26, Tryd.ntmps26
  go_wp2
  go_ret
  exact ⟨by first | rfl | exact ret_bool (by simp), rfl⟩
set_option maxHeartbeats 400000 in
theorem so_ge (x : Int) (w : World) :
    Calls Tryd.prog 26 #[.string ⟨#[62, 61]⟩, .int .i64 x] w fun e w' => e = .returned (.bool (decide (0 ≤ x))) ∧ w = w' := by
  go_enter Tryd.func26, Tryd.ntmps26
  go_wp2
  go_ret
  exact ⟨by first | rfl | exact ret_bool (by simp), rfl⟩
set_option maxHeartbeats 400000 in
theorem sb_begins (s p : ByteArray) (w : World) (_hs : s.size ≤ 10000) (hmx : MaxAt w) :
    Calls Tryd.prog 25 #[.string ⟨#[98, 101, 103, 105, 110, 115]⟩, .string s, .string p] w fun e w' => e = .returned (.bool (p.data.toList.isPrefixOf s.data.toList)) ∧ w = w' := by
  obtain ⟨m, hm⟩ := hmx
  have HC := Lib.hid (Tryd.strings_HasPrefix s p w)
  clear hm
  go_enter Tryd.func25, Tryd.ntmps25
  go_wp2_with fail
  refine HC.out.mono ?_
  rintro e w1 ⟨rfl, rfl⟩
  go_wp2
  go_ret
  exact ⟨ret_bool (rfl), rfl⟩
set_option maxHeartbeats 400000 in
theorem sb_ends (s p : ByteArray) (w : World) (hs : s.size ≤ 10000) (hmx : MaxAt w) :
    Calls Tryd.prog 25 #[.string ⟨#[101, 110, 100, 115]⟩, .string s, .string p] w fun e w' => e = .returned (.bool (p.data.toList.isSuffixOf s.data.toList)) ∧ w = w' := by
  obtain ⟨m, hm⟩ := hmx
  have HC := Lib.hid (Tryd.strings_HasSuffix s p w (by have : maxLen = 9223372036854775807 := rfl; omega))
  clear hm
  go_enter Tryd.func25, Tryd.ntmps25
  go_wp2_with fail
  refine HC.out.mono ?_
  rintro e w1 ⟨rfl, rfl⟩
  go_wp2
  go_ret
  exact ⟨ret_bool (rfl), rfl⟩
set_option maxHeartbeats 400000 in
theorem sb_has (s p : ByteArray) (w : World) (hs : s.size ≤ 10000) (hmx : MaxAt w) :
    Calls Tryd.prog 25 #[.string ⟨#[104, 97, 115]⟩, .string s, .string p] w fun e w' => e = .returned (.bool (hasL s.data.toList p.data.toList)) ∧ w = w' := by
  obtain ⟨m, hm⟩ := hmx
  have HC := Lib.hid (Tryd.strings_Contains s p m w (by omega) hm)
  clear hm
  go_enter Tryd.func25, Tryd.ntmps25
  go_wp2_with fail
  refine HC.out.mono ?_
  rintro e w1 ⟨rfl, rfl⟩
  go_wp2
  go_ret
  exact ⟨ret_bool ((contains_has _ _)), rfl⟩
set_option maxHeartbeats 1000000 in
theorem says_eq (a b : Cv) (w : World) :
    Calls Tryd.prog 16 #[.string ⟨#[61]⟩, agV a, agV b] w fun e w' => e = .returned (.bool (sayC [61] a b)) ∧ Below w.heap.size w w' := by
  obtain ⟨k, n, s⟩ := a
  obtain ⟨k', n', s'⟩ := b
  have HC := Lib.hid (fun X => compare_any k n s k' n' s' X)
  obtain ⟨x, hx⟩ : ∃ x, ordV k n s k' n' s' = x := ⟨_, rfl⟩
  have HS : Hid (sayC [61] (k, n, s) (k', n', s') = (x == 0)) := by show _ = _; rw [← hx]; rfl
  rw [hx] at HC
  clear hx
  show Calls _ _ #[_, .agg #[.int .i64 k, .int .i64 n, .string s], .agg #[.int .i64 k', .int .i64 n', .string s']] _ _
  go_enter Tryd.func16, Tryd.ntmps16
  go_wp2_with fail
  refine (HC.out _).mono ?_
  rintro e w1 ⟨rfl, hb1⟩
  have HB1 := Lib.hid ((((Below.refl w.heap.size w).alloc (Nat.le_refl _) (.cells #[.int .i64 k, .int .i64 n, .string s] 43)).alloc (by simp) (.cells #[.int .i64 k', .int .i64 n', .string s'] 43)).trans (hb1.mono (by simp; omega)))
  clear hb1
  go_wp2_with fail
  refine (so_eq x _).mono ?_
  rintro e w2 ⟨rfl, rfl⟩
  go_wp2
  go_ret
  exact ⟨ret_bool HS.out.symm, HB1.out⟩
set_option maxHeartbeats 1000000 in
theorem says_ne (a b : Cv) (w : World) :
    Calls Tryd.prog 16 #[.string ⟨#[33, 61]⟩, agV a, agV b] w fun e w' => e = .returned (.bool (sayC [33, 61] a b)) ∧ Below w.heap.size w w' := by
  obtain ⟨k, n, s⟩ := a
  obtain ⟨k', n', s'⟩ := b
  have HC := Lib.hid (fun X => compare_any k n s k' n' s' X)
  obtain ⟨x, hx⟩ : ∃ x, ordV k n s k' n' s' = x := ⟨_, rfl⟩
  have HS : Hid (sayC [33, 61] (k, n, s) (k', n', s') = (x != 0)) := by show _ = _; rw [← hx]; rfl
  rw [hx] at HC
  clear hx
  show Calls _ _ #[_, .agg #[.int .i64 k, .int .i64 n, .string s], .agg #[.int .i64 k', .int .i64 n', .string s']] _ _
  go_enter Tryd.func16, Tryd.ntmps16
  go_wp2_with fail
  refine (HC.out _).mono ?_
  rintro e w1 ⟨rfl, hb1⟩
  have HB1 := Lib.hid ((((Below.refl w.heap.size w).alloc (Nat.le_refl _) (.cells #[.int .i64 k, .int .i64 n, .string s] 43)).alloc (by simp) (.cells #[.int .i64 k', .int .i64 n', .string s'] 43)).trans (hb1.mono (by simp; omega)))
  clear hb1
  go_wp2_with fail
  refine (so_ne x _).mono ?_
  rintro e w2 ⟨rfl, rfl⟩
  go_wp2
  go_ret
  exact ⟨ret_bool HS.out.symm, HB1.out⟩
set_option maxHeartbeats 1000000 in
theorem says_lt (a b : Cv) (w : World) :
    Calls Tryd.prog 16 #[.string ⟨#[60]⟩, agV a, agV b] w fun e w' => e = .returned (.bool (sayC [60] a b)) ∧ Below w.heap.size w w' := by
  obtain ⟨k, n, s⟩ := a
  obtain ⟨k', n', s'⟩ := b
  have HC := Lib.hid (fun X => compare_any k n s k' n' s' X)
  obtain ⟨x, hx⟩ : ∃ x, ordV k n s k' n' s' = x := ⟨_, rfl⟩
  have HS : Hid (sayC [60] (k, n, s) (k', n', s') = decide (x < 0)) := by show _ = _; rw [← hx]; rfl
  rw [hx] at HC
  clear hx
  show Calls _ _ #[_, .agg #[.int .i64 k, .int .i64 n, .string s], .agg #[.int .i64 k', .int .i64 n', .string s']] _ _
  go_enter Tryd.func16, Tryd.ntmps16
  go_wp2_with fail
  refine (HC.out _).mono ?_
  rintro e w1 ⟨rfl, hb1⟩
  have HB1 := Lib.hid ((((Below.refl w.heap.size w).alloc (Nat.le_refl _) (.cells #[.int .i64 k, .int .i64 n, .string s] 43)).alloc (by simp) (.cells #[.int .i64 k', .int .i64 n', .string s'] 43)).trans (hb1.mono (by simp; omega)))
  clear hb1
  go_wp2_with fail
  refine (so_lt x _).mono ?_
  rintro e w2 ⟨rfl, rfl⟩
  go_wp2
  go_ret
  exact ⟨ret_bool HS.out.symm, HB1.out⟩
set_option maxHeartbeats 1000000 in
theorem says_le (a b : Cv) (w : World) :
    Calls Tryd.prog 16 #[.string ⟨#[60, 61]⟩, agV a, agV b] w fun e w' => e = .returned (.bool (sayC [60, 61] a b)) ∧ Below w.heap.size w w' := by
  obtain ⟨k, n, s⟩ := a
  obtain ⟨k', n', s'⟩ := b
  have HC := Lib.hid (fun X => compare_any k n s k' n' s' X)
  obtain ⟨x, hx⟩ : ∃ x, ordV k n s k' n' s' = x := ⟨_, rfl⟩
  have HS : Hid (sayC [60, 61] (k, n, s) (k', n', s') = decide (x ≤ 0)) := by show _ = _; rw [← hx]; rfl
  rw [hx] at HC
  clear hx
  show Calls _ _ #[_, .agg #[.int .i64 k, .int .i64 n, .string s], .agg #[.int .i64 k', .int .i64 n', .string s']] _ _
  go_enter Tryd.func16, Tryd.ntmps16
  go_wp2_with fail
  refine (HC.out _).mono ?_
  rintro e w1 ⟨rfl, hb1⟩
  have HB1 := Lib.hid ((((Below.refl w.heap.size w).alloc (Nat.le_refl _) (.cells #[.int .i64 k, .int .i64 n, .string s] 43)).alloc (by simp) (.cells #[.int .i64 k', .int .i64 n', .string s'] 43)).trans (hb1.mono (by simp; omega)))
  clear hb1
  go_wp2_with fail
  refine (so_le x _).mono ?_
  rintro e w2 ⟨rfl, rfl⟩
  go_wp2
  go_ret
  exact ⟨ret_bool HS.out.symm, HB1.out⟩
set_option maxHeartbeats 1000000 in
theorem says_gt (a b : Cv) (w : World) :
    Calls Tryd.prog 16 #[.string ⟨#[62]⟩, agV a, agV b] w fun e w' => e = .returned (.bool (sayC [62] a b)) ∧ Below w.heap.size w w' := by
  obtain ⟨k, n, s⟩ := a
  obtain ⟨k', n', s'⟩ := b
  have HC := Lib.hid (fun X => compare_any k n s k' n' s' X)
  obtain ⟨x, hx⟩ : ∃ x, ordV k n s k' n' s' = x := ⟨_, rfl⟩
  have HS : Hid (sayC [62] (k, n, s) (k', n', s') = decide (0 < x)) := by show _ = _; rw [← hx]; rfl
  rw [hx] at HC
  clear hx
  show Calls _ _ #[_, .agg #[.int .i64 k, .int .i64 n, .string s], .agg #[.int .i64 k', .int .i64 n', .string s']] _ _
  go_enter Tryd.func16, Tryd.ntmps16
  go_wp2_with fail
  refine (HC.out _).mono ?_
  rintro e w1 ⟨rfl, hb1⟩
  have HB1 := Lib.hid ((((Below.refl w.heap.size w).alloc (Nat.le_refl _) (.cells #[.int .i64 k, .int .i64 n, .string s] 43)).alloc (by simp) (.cells #[.int .i64 k', .int .i64 n', .string s'] 43)).trans (hb1.mono (by simp; omega)))
  clear hb1
  go_wp2_with fail
  refine (so_gt x _).mono ?_
  rintro e w2 ⟨rfl, rfl⟩
  go_wp2
  go_ret
  exact ⟨ret_bool HS.out.symm, HB1.out⟩
set_option maxHeartbeats 1000000 in
theorem says_ge (a b : Cv) (w : World) :
    Calls Tryd.prog 16 #[.string ⟨#[62, 61]⟩, agV a, agV b] w fun e w' => e = .returned (.bool (sayC [62, 61] a b)) ∧ Below w.heap.size w w' := by
  obtain ⟨k, n, s⟩ := a
  obtain ⟨k', n', s'⟩ := b
  have HC := Lib.hid (fun X => compare_any k n s k' n' s' X)
  obtain ⟨x, hx⟩ : ∃ x, ordV k n s k' n' s' = x := ⟨_, rfl⟩
  have HS : Hid (sayC [62, 61] (k, n, s) (k', n', s') = decide (0 ≤ x)) := by show _ = _; rw [← hx]; rfl
  rw [hx] at HC
  clear hx
  show Calls _ _ #[_, .agg #[.int .i64 k, .int .i64 n, .string s], .agg #[.int .i64 k', .int .i64 n', .string s']] _ _
  go_enter Tryd.func16, Tryd.ntmps16
  go_wp2_with fail
  refine (HC.out _).mono ?_
  rintro e w1 ⟨rfl, hb1⟩
  have HB1 := Lib.hid ((((Below.refl w.heap.size w).alloc (Nat.le_refl _) (.cells #[.int .i64 k, .int .i64 n, .string s] 43)).alloc (by simp) (.cells #[.int .i64 k', .int .i64 n', .string s'] 43)).trans (hb1.mono (by simp; omega)))
  clear hb1
  go_wp2_with fail
  refine (so_ge x _).mono ?_
  rintro e w2 ⟨rfl, rfl⟩
  go_wp2
  go_ret
  exact ⟨ret_bool HS.out.symm, HB1.out⟩
set_option maxHeartbeats 1000000 in
theorem says_begins (a b : Cv) (w : World) (hs : a.2.2.size ≤ 10000) (hmx : MaxAt w) :
    Calls Tryd.prog 16 #[.string ⟨#[98, 101, 103, 105, 110, 115]⟩, agV a, agV b] w fun e w' => e = .returned (.bool (sayC [98, 101, 103, 105, 110, 115] a b)) ∧ Below w.heap.size w w' := by
  obtain ⟨k, n, s⟩ := a
  obtain ⟨k', n', s'⟩ := b
  have HC := Lib.hid (fun X h => sb_begins s s' X hs h)
  obtain ⟨x, hx⟩ : ∃ x, s'.data.toList.isPrefixOf s.data.toList = x := ⟨_, rfl⟩
  have HS : Hid (sayC [98, 101, 103, 105, 110, 115] (k, n, s) (k', n', s') = ((k == k') && bytK k && x)) := by show _ = _; rw [← hx]; rfl
  rw [hx] at HC
  clear hx
  show Calls _ _ #[_, .agg #[.int .i64 k, .int .i64 n, .string s], .agg #[.int .i64 k', .int .i64 n', .string s']] _ _
  have HB0 := Lib.hid (((Below.refl w.heap.size w).alloc (Nat.le_refl _) (.cells #[.int .i64 k, .int .i64 n, .string s] 43)).alloc (by simp) (.cells #[.int .i64 k', .int .i64 n', .string s'] 43))
  have HM := Lib.hid (hmx.next HB0.out)
  have HY := Lib.hid (fun X => hasBytes_any k X)
  obtain ⟨y, hy⟩ : ∃ y, bytK k = y := ⟨_, rfl⟩
  rw [hy] at HY HS
  clear hy
  cases hk : (k == k') with
  | false =>
    rw [hk] at HS
    go_enter Tryd.func16, Tryd.ntmps16
    go_wp2
    go_ret
    exact ⟨ret_bool (by rw [HS.out]; rfl), HB0.out⟩
  | true =>
    rw [hk] at HS
    go_enter Tryd.func16, Tryd.ntmps16
    go_wp2_with fail
    refine (HY.out _).mono ?_
    rintro e w1 ⟨rfl, rfl⟩
    cases y with
    | false =>
      go_wp2
      go_ret
      exact ⟨ret_bool (by rw [HS.out]; rfl), HB0.out⟩
    | true =>
      go_wp2_with fail
      refine (HC.out _ HM.out).mono ?_
      rintro e w2 ⟨rfl, rfl⟩
      go_wp2
      go_ret
      exact ⟨ret_bool (by rw [HS.out]; rfl), HB0.out⟩
set_option maxHeartbeats 1000000 in
theorem says_ends (a b : Cv) (w : World) (hs : a.2.2.size ≤ 10000) (hmx : MaxAt w) :
    Calls Tryd.prog 16 #[.string ⟨#[101, 110, 100, 115]⟩, agV a, agV b] w fun e w' => e = .returned (.bool (sayC [101, 110, 100, 115] a b)) ∧ Below w.heap.size w w' := by
  obtain ⟨k, n, s⟩ := a
  obtain ⟨k', n', s'⟩ := b
  have HC := Lib.hid (fun X h => sb_ends s s' X hs h)
  obtain ⟨x, hx⟩ : ∃ x, s'.data.toList.isSuffixOf s.data.toList = x := ⟨_, rfl⟩
  have HS : Hid (sayC [101, 110, 100, 115] (k, n, s) (k', n', s') = ((k == k') && bytK k && x)) := by show _ = _; rw [← hx]; rfl
  rw [hx] at HC
  clear hx
  show Calls _ _ #[_, .agg #[.int .i64 k, .int .i64 n, .string s], .agg #[.int .i64 k', .int .i64 n', .string s']] _ _
  have HB0 := Lib.hid (((Below.refl w.heap.size w).alloc (Nat.le_refl _) (.cells #[.int .i64 k, .int .i64 n, .string s] 43)).alloc (by simp) (.cells #[.int .i64 k', .int .i64 n', .string s'] 43))
  have HM := Lib.hid (hmx.next HB0.out)
  have HY := Lib.hid (fun X => hasBytes_any k X)
  obtain ⟨y, hy⟩ : ∃ y, bytK k = y := ⟨_, rfl⟩
  rw [hy] at HY HS
  clear hy
  cases hk : (k == k') with
  | false =>
    rw [hk] at HS
    go_enter Tryd.func16, Tryd.ntmps16
    go_wp2
    go_ret
    exact ⟨ret_bool (by rw [HS.out]; rfl), HB0.out⟩
  | true =>
    rw [hk] at HS
    go_enter Tryd.func16, Tryd.ntmps16
    go_wp2_with fail
    refine (HY.out _).mono ?_
    rintro e w1 ⟨rfl, rfl⟩
    cases y with
    | false =>
      go_wp2
      go_ret
      exact ⟨ret_bool (by rw [HS.out]; rfl), HB0.out⟩
    | true =>
      go_wp2_with fail
      refine (HC.out _ HM.out).mono ?_
      rintro e w2 ⟨rfl, rfl⟩
      go_wp2
      go_ret
      exact ⟨ret_bool (by rw [HS.out]; rfl), HB0.out⟩
set_option maxHeartbeats 1000000 in
theorem says_has (a b : Cv) (w : World) (hs : a.2.2.size ≤ 10000) (hmx : MaxAt w) :
    Calls Tryd.prog 16 #[.string ⟨#[104, 97, 115]⟩, agV a, agV b] w fun e w' => e = .returned (.bool (sayC [104, 97, 115] a b)) ∧ Below w.heap.size w w' := by
  obtain ⟨k, n, s⟩ := a
  obtain ⟨k', n', s'⟩ := b
  have HC := Lib.hid (fun X h => sb_has s s' X hs h)
  obtain ⟨x, hx⟩ : ∃ x, hasL s.data.toList s'.data.toList = x := ⟨_, rfl⟩
  have HS : Hid (sayC [104, 97, 115] (k, n, s) (k', n', s') = ((k == k') && bytK k && x)) := by show _ = _; rw [← hx]; rfl
  rw [hx] at HC
  clear hx
  show Calls _ _ #[_, .agg #[.int .i64 k, .int .i64 n, .string s], .agg #[.int .i64 k', .int .i64 n', .string s']] _ _
  have HB0 := Lib.hid (((Below.refl w.heap.size w).alloc (Nat.le_refl _) (.cells #[.int .i64 k, .int .i64 n, .string s] 43)).alloc (by simp) (.cells #[.int .i64 k', .int .i64 n', .string s'] 43))
  have HM := Lib.hid (hmx.next HB0.out)
  have HY := Lib.hid (fun X => hasBytes_any k X)
  obtain ⟨y, hy⟩ : ∃ y, bytK k = y := ⟨_, rfl⟩
  rw [hy] at HY HS
  clear hy
  cases hk : (k == k') with
  | false =>
    rw [hk] at HS
    go_enter Tryd.func16, Tryd.ntmps16
    go_wp2
    go_ret
    exact ⟨ret_bool (by rw [HS.out]; rfl), HB0.out⟩
  | true =>
    rw [hk] at HS
    go_enter Tryd.func16, Tryd.ntmps16
    go_wp2_with fail
    refine (HY.out _).mono ?_
    rintro e w1 ⟨rfl, rfl⟩
    cases y with
    | false =>
      go_wp2
      go_ret
      exact ⟨ret_bool (by rw [HS.out]; rfl), HB0.out⟩
    | true =>
      go_wp2_with fail
      refine (HC.out _ HM.out).mono ?_
      rintro e w2 ⟨rfl, rfl⟩
      go_wp2
      go_ret
      exact ⟨ret_bool (by rw [HS.out]; rfl), HB0.out⟩
set_option maxHeartbeats 1000000 in
theorem says_kind (a b : Cv) (w : World) :
    Calls Tryd.prog 16 #[.string ⟨#[107, 105, 110, 100]⟩, agV a, agV b] w fun e w' => e = .returned (.bool (sayC [107, 105, 110, 100] a b)) ∧ Below w.heap.size w w' := by
  obtain ⟨k, n, s⟩ := a
  obtain ⟨k', n', s'⟩ := b
  have HS : Hid (sayC [107, 105, 110, 100] (k, n, s) (k', n', s') = ((k' == 1) && (n' == k))) := rfl
  show Calls _ _ #[_, .agg #[.int .i64 k, .int .i64 n, .string s], .agg #[.int .i64 k', .int .i64 n', .string s']] _ _
  have HB0 := Lib.hid (((Below.refl w.heap.size w).alloc (Nat.le_refl _) (.cells #[.int .i64 k, .int .i64 n, .string s] 43)).alloc (by simp) (.cells #[.int .i64 k', .int .i64 n', .string s'] 43))
  cases hk : (k' == 1) with
  | false =>
    rw [hk] at HS
    go_enter Tryd.func16, Tryd.ntmps16
    go_wp2
    go_ret
    exact ⟨ret_bool (by rw [HS.out]; rfl), HB0.out⟩
  | true =>
    rw [hk] at HS
    go_enter Tryd.func16, Tryd.ntmps16
    go_wp2
    go_ret
    exact ⟨ret_bool (by rw [HS.out]; rfl), HB0.out⟩
end Go.Proofs.YtlblbghlchedpaaDoor
