/-
  CONTRACT: the document's Test, of kind, begins, ends.
-/
import Derived.Test.YtlblbghlchedpaaDoorCxRft
namespace Go.Proofs.YtlblbghlchedpaaDoor
open Go.RowKit Go.Shelf

set_option maxRecDepth 100000 in
set_option maxHeartbeats 1000000 in
theorem reft_kind (A : Option Addr) (c : Nat) (a b : Cv) (w : World) (hr : rightC true [107, 105, 110, 100] [a, b] = 0) (hs : SlX w w.heap.size A [a, b]) :
    Calls Tryd.prog 11 #[.string ⟨#[107, 105, 110, 100]⟩, .slice A (2 : Nat) c] w fun e w' => e = .returned (.tuple #[.bool (sayC [107, 105, 110, 100] a b), .int .i64 0]) ∧ Below w.heap.size w w' := by
  obtain ⟨_, a9, b9, e9, ha, hb⟩ := right_zero hr
  injection e9 with e1 e2
  injection e2 with e2 _
  subst e1 e2
  have hza := may_size ha
  have hzb := may_size hb
  have hmx : 100000 ≤ maxLen := by decide
  have HR := Lib.hid (right_any ⟨#[107, 105, 110, 100]⟩ true A c [a, b] w hs (by simp) (fun v hv => by simp at hv; rcases hv with rfl | rfl <;> omega))
  rw [show (⟨#[107, 105, 110, 100]⟩ : ByteArray).data.toList = [107, 105, 110, 100] from rfl, hr] at HR
  obtain ⟨blk, o, rfl, hlt, hcs⟩ := hs (by simp)
  have h0 := hcs 0 a rfl
  have h1 := hcs 1 b rfl
  rw [Nat.zero_mul, Nat.add_zero] at h0
  rw [Nat.one_mul] at h1
  have HX := Lib.hid (ordC_range a b)
  obtain ⟨k, n, s⟩ := a
  obtain ⟨k', n', s'⟩ := b
  simp only at hza hzb
  have HA := Lib.hid (And.intro h0 h1)
  have HC := Lib.hid (fun X => refCompare_any k n s k' n' s' X (by omega) (by omega))
  replace HR : Hid (Calls Tryd.prog 17 #[.string ⟨#[107, 105, 110, 100]⟩, .slice (some ⟨blk, o, none⟩) (2 : Nat) c, .bool true] w fun e w' => e = .returned (.int .i64 0) ∧ Below w.heap.size w w') := HR
  have HS : Hid (sayC [107, 105, 110, 100] (k, n, s) (k', n', s') = ((k' == 1) && (n' == k))) := rfl
  obtain ⟨x, hx⟩ : ∃ x, ordV k n s k' n' s' = x := ⟨_, rfl⟩
  rw [hx] at HC
  clear hx hcs h0 h1 hza hzb hs hr ha hb HX
  go_enter Tryd.func11, Tryd.ntmps11
  go_wp2_with fail
  refine HR.out.mono ?_
  rintro e w1 ⟨rfl, hb1⟩
  have hA1 : CvAt w1 blk o (k, n, s) ∧ CvAt w1 blk (o + 3) (k', n', s') := ⟨HA.out.1.next hb1 hlt, HA.out.2.next hb1 hlt⟩
  have hA2 := CvAt.next hA1.2 ((Below.refl w1.heap.size w1).alloc (Nat.le_refl _) (.cells #[.int .i64 k, .int .i64 n, .string s] 43)) (Nat.lt_of_lt_of_le hlt hb1.size)
  obtain ⟨c0, c1, c2⟩ := hA1.1
  obtain ⟨d0, d1, d2⟩ := hA2
  simp only at c0 c1 c2 d0 d1 d2
  have HB1 := Lib.hid ((hb1.alloc hb1.size (.cells #[.int .i64 k, .int .i64 n, .string s] 43)).alloc (by have := hb1.size; simp; omega) (.cells #[.int .i64 k', .int .i64 n', .string s'] 43))
  have HZ1 := Lib.hid hb1.size
  clear hb1 hA1
  go_wp2_with fail
  clear c0 c1 c2 d0 d1 d2
  refine (HC.out _).mono ?_
  rintro e w3 ⟨rfl, hb3⟩
  have HB3 := Lib.hid (HB1.out.trans (hb3.mono (by have := HZ1.out; simp; omega)))
  obtain ⟨⟨u0, u1, u2⟩, ⟨v0, v1, v2⟩⟩ := two_boxes (hb3.mono (by simp))
  simp only [Nat.zero_add] at u0 u1 u2 v0 v1 v2
  clear hb3
  rcases kind_cases k k' with ⟨hq, _⟩ | ⟨rfl, rfl, _⟩ | ⟨rfl, rfl, _⟩ | ⟨hq, hq3, hq4, _⟩
  · cases h1 : (k' == 1) with
    | false =>
      rw [h1] at HS
      go_wp2
      go_ret2
      exact ⟨by rw [HS.out]; rfl, HB3.out⟩
    | true =>
      rw [h1] at HS
      go_wp2
      go_ret2
      exact ⟨by rw [HS.out]; rfl, HB3.out⟩
  · go_wp2
    go_ret2
    exact ⟨by rw [HS.out]; rfl, HB3.out⟩
  · go_wp2
    go_ret2
    exact ⟨by rw [HS.out]; rfl, HB3.out⟩
  · cases h1 : (k' == 1) with
    | false =>
      rw [h1] at HS
      go_wp2
      go_ret2
      exact ⟨by rw [HS.out]; rfl, HB3.out⟩
    | true =>
      rw [h1] at HS
      go_wp2
      go_ret2
      exact ⟨by rw [HS.out]; rfl, HB3.out⟩
set_option maxRecDepth 100000 in
set_option maxHeartbeats 1000000 in
theorem reft_begins (A : Option Addr) (c : Nat) (a b : Cv) (w : World) (hr : rightC true [98, 101, 103, 105, 110, 115] [a, b] = 0) (hs : SlX w w.heap.size A [a, b]) :
    Calls Tryd.prog 11 #[.string ⟨#[98, 101, 103, 105, 110, 115]⟩, .slice A (2 : Nat) c] w fun e w' => e = .returned (.tuple #[.bool (sayC [98, 101, 103, 105, 110, 115] a b), .int .i64 0]) ∧ Below w.heap.size w w' := by
  obtain ⟨_, a9, b9, e9, ha, hb⟩ := right_zero hr
  injection e9 with e1 e2
  injection e2 with e2 _
  subst e1 e2
  have hza := may_size ha
  have hzb := may_size hb
  have hmx : 100000 ≤ maxLen := by decide
  have HR := Lib.hid (right_any ⟨#[98, 101, 103, 105, 110, 115]⟩ true A c [a, b] w hs (by simp) (fun v hv => by simp at hv; rcases hv with rfl | rfl <;> omega))
  rw [show (⟨#[98, 101, 103, 105, 110, 115]⟩ : ByteArray).data.toList = [98, 101, 103, 105, 110, 115] from rfl, hr] at HR
  obtain ⟨blk, o, rfl, hlt, hcs⟩ := hs (by simp)
  have h0 := hcs 0 a rfl
  have h1 := hcs 1 b rfl
  rw [Nat.zero_mul, Nat.add_zero] at h0
  rw [Nat.one_mul] at h1
  have HX := Lib.hid (ordC_range a b)
  obtain ⟨k, n, s⟩ := a
  obtain ⟨k', n', s'⟩ := b
  simp only at hza hzb
  have HA := Lib.hid (And.intro h0 h1)
  have HC := Lib.hid (fun X => refCompare_any k n s k' n' s' X (by omega) (by omega))
  replace HR : Hid (Calls Tryd.prog 17 #[.string ⟨#[98, 101, 103, 105, 110, 115]⟩, .slice (some ⟨blk, o, none⟩) (2 : Nat) c, .bool true] w fun e w' => e = .returned (.int .i64 0) ∧ Below w.heap.size w w') := HR
  have HAT : Hid (∀ X, Calls Tryd.prog 19 #[.string s, .string s', .int .i64 0] X fun e w' => e = .returned (.bool (s'.data.toList.isPrefixOf s.data.toList)) ∧ X = w') := fun X => by
    have h9 := at_any s s' 0 X (by omega) (by omega) (by omega) (by omega)
    rw [at_zero] at h9
    exact h9
  have HS : Hid (sayC [98, 101, 103, 105, 110, 115] (k, n, s) (k', n', s') = (((k == k') && bytK k) && s'.data.toList.isPrefixOf s.data.toList)) := rfl
  obtain ⟨x, hx⟩ : ∃ x, ordV k n s k' n' s' = x := ⟨_, rfl⟩
  obtain ⟨y, hy⟩ : ∃ y, s'.data.toList.isPrefixOf s.data.toList = y := ⟨_, rfl⟩
  rw [hx] at HC
  rw [hy] at HAT HS
  have hzi : (s.size : Int) ≤ 1000 := by omega
  have hzi' : (s'.size : Int) ≤ 1000 := by omega
  clear hx hy hcs h0 h1 hza hzb hs hr ha hb HX
  go_enter Tryd.func11, Tryd.ntmps11
  go_wp2_with fail
  refine HR.out.mono ?_
  rintro e w1 ⟨rfl, hb1⟩
  have hA1 : CvAt w1 blk o (k, n, s) ∧ CvAt w1 blk (o + 3) (k', n', s') := ⟨HA.out.1.next hb1 hlt, HA.out.2.next hb1 hlt⟩
  have hA2 := CvAt.next hA1.2 ((Below.refl w1.heap.size w1).alloc (Nat.le_refl _) (.cells #[.int .i64 k, .int .i64 n, .string s] 43)) (Nat.lt_of_lt_of_le hlt hb1.size)
  obtain ⟨c0, c1, c2⟩ := hA1.1
  obtain ⟨d0, d1, d2⟩ := hA2
  simp only at c0 c1 c2 d0 d1 d2
  have HB1 := Lib.hid ((hb1.alloc hb1.size (.cells #[.int .i64 k, .int .i64 n, .string s] 43)).alloc (by have := hb1.size; simp; omega) (.cells #[.int .i64 k', .int .i64 n', .string s'] 43))
  have HZ1 := Lib.hid hb1.size
  clear hb1 hA1
  go_wp2_with fail
  clear c0 c1 c2 d0 d1 d2
  refine (HC.out _).mono ?_
  rintro e w3 ⟨rfl, hb3⟩
  have HB3 := Lib.hid (HB1.out.trans (hb3.mono (by have := HZ1.out; simp; omega)))
  obtain ⟨⟨u0, u1, u2⟩, ⟨v0, v1, v2⟩⟩ := two_boxes (hb3.mono (by simp))
  simp only [Nat.zero_add] at u0 u1 u2 v0 v1 v2
  clear hb3
  rcases kind_cases k k' with ⟨hq, hsm⟩ | ⟨rfl, rfl, hsm⟩ | ⟨rfl, rfl, hsm⟩ | ⟨hq, hq3, hq4, hsm⟩
  all_goals rw [hsm] at HS
  all_goals clear hsm
  · go_wp2_with fail
    refine (HAT.out _).mono ?_
    rintro e w4 ⟨rfl, rfl⟩
    go_wp2
    go_ret2
    exact ⟨by rw [HS.out]; rfl, HB3.out⟩
  · go_wp2_with fail
    refine (HAT.out _).mono ?_
    rintro e w4 ⟨rfl, rfl⟩
    go_wp2
    go_ret2
    exact ⟨by rw [HS.out]; rfl, HB3.out⟩
  · go_wp2_with fail
    refine (HAT.out _).mono ?_
    rintro e w4 ⟨rfl, rfl⟩
    go_wp2
    go_ret2
    exact ⟨by rw [HS.out]; rfl, HB3.out⟩
  · cases h7 : (k == 7)
    all_goals rw [h7] at HS
    all_goals
      go_wp2_with fail
      refine (HAT.out _).mono ?_
      rintro e w4 ⟨rfl, rfl⟩
      go_wp2
      go_ret2
      exact ⟨by rw [HS.out]; rfl, HB3.out⟩
set_option maxRecDepth 100000 in
set_option maxHeartbeats 1000000 in
theorem reft_ends (A : Option Addr) (c : Nat) (a b : Cv) (w : World) (hr : rightC true [101, 110, 100, 115] [a, b] = 0) (hs : SlX w w.heap.size A [a, b]) :
    Calls Tryd.prog 11 #[.string ⟨#[101, 110, 100, 115]⟩, .slice A (2 : Nat) c] w fun e w' => e = .returned (.tuple #[.bool (sayC [101, 110, 100, 115] a b), .int .i64 0]) ∧ Below w.heap.size w w' := by
  obtain ⟨_, a9, b9, e9, ha, hb⟩ := right_zero hr
  injection e9 with e1 e2
  injection e2 with e2 _
  subst e1 e2
  have hza := may_size ha
  have hzb := may_size hb
  have hmx : 100000 ≤ maxLen := by decide
  have HR := Lib.hid (right_any ⟨#[101, 110, 100, 115]⟩ true A c [a, b] w hs (by simp) (fun v hv => by simp at hv; rcases hv with rfl | rfl <;> omega))
  rw [show (⟨#[101, 110, 100, 115]⟩ : ByteArray).data.toList = [101, 110, 100, 115] from rfl, hr] at HR
  obtain ⟨blk, o, rfl, hlt, hcs⟩ := hs (by simp)
  have h0 := hcs 0 a rfl
  have h1 := hcs 1 b rfl
  rw [Nat.zero_mul, Nat.add_zero] at h0
  rw [Nat.one_mul] at h1
  have HX := Lib.hid (ordC_range a b)
  obtain ⟨k, n, s⟩ := a
  obtain ⟨k', n', s'⟩ := b
  simp only at hza hzb
  have HA := Lib.hid (And.intro h0 h1)
  have HC := Lib.hid (fun X => refCompare_any k n s k' n' s' X (by omega) (by omega))
  replace HR : Hid (Calls Tryd.prog 17 #[.string ⟨#[101, 110, 100, 115]⟩, .slice (some ⟨blk, o, none⟩) (2 : Nat) c, .bool true] w fun e w' => e = .returned (.int .i64 0) ∧ Below w.heap.size w w') := HR
  have HAT : Hid (∀ X, Calls Tryd.prog 19 #[.string s, .string s', .int .i64 ((s.size : Int) - (s'.size : Int))] X fun e w' => e = .returned (.bool (s'.data.toList.isSuffixOf s.data.toList)) ∧ X = w') := fun X => by
    have h9 := at_any s s' ((s.size : Int) - (s'.size : Int)) X (by omega) (by omega) (by omega) (by omega)
    rw [show (s.size : Int) = (s.data.toList.length : Int) from by rw [Array.length_toList]; rfl, show (s'.size : Int) = (s'.data.toList.length : Int) from by rw [Array.length_toList]; rfl, at_end] at h9
    exact h9
  have HS : Hid (sayC [101, 110, 100, 115] (k, n, s) (k', n', s') = (((k == k') && bytK k) && s'.data.toList.isSuffixOf s.data.toList)) := rfl
  obtain ⟨x, hx⟩ : ∃ x, ordV k n s k' n' s' = x := ⟨_, rfl⟩
  obtain ⟨y, hy⟩ : ∃ y, s'.data.toList.isSuffixOf s.data.toList = y := ⟨_, rfl⟩
  rw [hx] at HC
  rw [hy] at HAT HS
  have hzi : (s.size : Int) ≤ 1000 := by omega
  have hzi' : (s'.size : Int) ≤ 1000 := by omega
  clear hx hy hcs h0 h1 hza hzb hs hr ha hb HX
  go_enter Tryd.func11, Tryd.ntmps11
  go_wp2_with fail
  refine HR.out.mono ?_
  rintro e w1 ⟨rfl, hb1⟩
  have hA1 : CvAt w1 blk o (k, n, s) ∧ CvAt w1 blk (o + 3) (k', n', s') := ⟨HA.out.1.next hb1 hlt, HA.out.2.next hb1 hlt⟩
  have hA2 := CvAt.next hA1.2 ((Below.refl w1.heap.size w1).alloc (Nat.le_refl _) (.cells #[.int .i64 k, .int .i64 n, .string s] 43)) (Nat.lt_of_lt_of_le hlt hb1.size)
  obtain ⟨c0, c1, c2⟩ := hA1.1
  obtain ⟨d0, d1, d2⟩ := hA2
  simp only at c0 c1 c2 d0 d1 d2
  have HB1 := Lib.hid ((hb1.alloc hb1.size (.cells #[.int .i64 k, .int .i64 n, .string s] 43)).alloc (by have := hb1.size; simp; omega) (.cells #[.int .i64 k', .int .i64 n', .string s'] 43))
  have HZ1 := Lib.hid hb1.size
  clear hb1 hA1
  go_wp2_with fail
  clear c0 c1 c2 d0 d1 d2
  refine (HC.out _).mono ?_
  rintro e w3 ⟨rfl, hb3⟩
  have HB3 := Lib.hid (HB1.out.trans (hb3.mono (by have := HZ1.out; simp; omega)))
  obtain ⟨⟨u0, u1, u2⟩, ⟨v0, v1, v2⟩⟩ := two_boxes (hb3.mono (by simp))
  simp only [Nat.zero_add] at u0 u1 u2 v0 v1 v2
  clear hb3
  rcases kind_cases k k' with ⟨hq, hsm⟩ | ⟨rfl, rfl, hsm⟩ | ⟨rfl, rfl, hsm⟩ | ⟨hq, hq3, hq4, hsm⟩
  all_goals rw [hsm] at HS
  all_goals clear hsm
  · go_wp2_with fail
    refine (HAT.out _).mono ?_
    rintro e w4 ⟨rfl, rfl⟩
    go_wp2
    go_ret2
    exact ⟨by rw [HS.out]; rfl, HB3.out⟩
  · go_wp2_with fail
    refine (HAT.out _).mono ?_
    rintro e w4 ⟨rfl, rfl⟩
    go_wp2
    go_ret2
    exact ⟨by rw [HS.out]; rfl, HB3.out⟩
  · go_wp2_with fail
    refine (HAT.out _).mono ?_
    rintro e w4 ⟨rfl, rfl⟩
    go_wp2
    go_ret2
    exact ⟨by rw [HS.out]; rfl, HB3.out⟩
  · cases h7 : (k == 7)
    all_goals rw [h7] at HS
    all_goals
      go_wp2_with fail
      refine (HAT.out _).mono ?_
      rintro e w4 ⟨rfl, rfl⟩
      go_wp2
      go_ret2
      exact ⟨by rw [HS.out]; rfl, HB3.out⟩
end Go.Proofs.YtlblbghlchedpaaDoor
