/-
  CONTRACT: the document's Test.
-/
import Derived.Test.YtlblbghlchedpaaDoorCxTest
import Derived.Test.YtlblbghlchedpaaDoorOrdRef
import Derived.BigQuiet
namespace Go.Proofs.YtlblbghlchedpaaDoor
open Go.RowKit Go.Shelf

def occL (s p : Bt) (k : Nat) : Bool := p.isPrefixOf (s.drop k)
theorem has_occ : ∀ (s p : Bt), hasL s p = (List.range (s.length + 1)).any (occL s p)
  | [], p => by cases p <;> rfl
  | b :: l, p => by
    have ih := has_occ l p
    rw [List.length_cons, List.range_succ_eq_map, List.any_cons, List.any_map]
    unfold hasL
    rw [ih]
    rfl
/-- does one text stand in another at a place? -/
def atL (s p : Bt) (k : Int) : Bool := decide (0 ≤ k) && occL s p k.toNat
theorem pre_short {s p : Bt} (h : s.length < p.length) : p.isPrefixOf s = false := by
  rw [Bool.eq_false_iff]
  intro h2
  have := (List.isPrefixOf_iff_prefix.1 h2).length_le
  omega
theorem take_pre (s p : Bt) (h : p.length ≤ s.length) : (s.take p.length == p) = p.isPrefixOf s := by
  rw [Bool.eq_iff_iff, beq_iff_eq, List.isPrefixOf_iff_prefix]
  constructor
  · intro e
    rw [← e]
    exact List.take_prefix _ _
  · rintro ⟨r, rfl⟩
    simp
theorem at_is (s t : ByteArray) (j : Nat) (h : j + t.size ≤ s.size) : ((s.extract j (j + t.size)).toList == t.toList) = occL s.data.toList t.data.toList j := by
  have hl : t.data.toList.length = t.size := Array.length_toList
  have h1 : (s.extract j (j + t.size)).data.toList = (s.data.toList.drop j).take t.size := by
    simp
  rw [ByteArray.toList_eq, ByteArray.toList_eq, h1, ← hl]
  exact take_pre _ _ (by rw [List.length_drop, Array.length_toList, Array.length_toList]; have h2 : s.data.size = s.size := rfl; have h3 : t.data.size = t.size := rfl; omega)
theorem at_short (s t : ByteArray) (j : Nat) (h : ¬ j + t.size ≤ s.size) : occL s.data.toList t.data.toList j = false ∨ (t.size = 0 ∧ s.size < j) := by
  by_cases h2 : t.size = 0
  · exact .inr ⟨h2, by omega⟩
  · left
    refine pre_short ?_
    have hl : t.data.toList.length = t.size := Array.length_toList
    have hs : s.data.toList.length = s.size := Array.length_toList
    rw [List.length_drop, hl, hs]
    omega
set_option maxRecDepth 100000 in
set_option maxHeartbeats 1000000 in
theorem at_any (s t : ByteArray) (k : Int) (w : World) (hs : s.size ≤ 10000) (ht : t.size ≤ 10000) (hk : -10000 ≤ k) (hk2 : k ≤ s.size) :
    Calls Tryd.prog 19 #[.string s, .string t, .int .i64 k] w fun e w' => e = .returned (.bool (atL s.data.toList t.data.toList k)) ∧ w = w' := by
  have hmx : 100000 ≤ maxLen := by decide
  by_cases h0 : 0 ≤ k
  · obtain ⟨j, rfl⟩ : ∃ j : Nat, k = (j : Int) := ⟨k.toNat, by omega⟩
    have HA : Hid (atL s.data.toList t.data.toList (j : Int) = occL s.data.toList t.data.toList j) := by show _ = _; unfold atL; rw [decide_eq_true h0]; rfl
    by_cases h1 : j + t.size ≤ s.size
    · have HE := Lib.hid (at_is s t j h1)
      have c1 : (t.size : Int) ≤ (s.size : Int) - (j : Int) := by omega
      have c2 : (j : Int) + (t.size : Int) ≤ (s.size : Int) := by omega
      go_enter Tryd.func19, Tryd.ntmps19
      go_wp2
      go_ret
      exact ⟨ret_bool (HE.out.trans HA.out.symm), rfl⟩
    · have c1 : ¬ (t.size : Int) ≤ (s.size : Int) - (j : Int) := by omega
      have HE : Hid (occL s.data.toList t.data.toList j = false) := by
        rcases at_short s t j h1 with h | ⟨h, h2⟩
        · exact h
        · omega
      go_enter Tryd.func19, Tryd.ntmps19
      go_wp2
      go_ret
      exact ⟨ret_bool (by rw [HA.out, HE.out]), rfl⟩
  · have HA : Hid (atL s.data.toList t.data.toList k = false) := by show _ = _; unfold atL; rw [decide_eq_false h0]; rfl
    go_enter Tryd.func19, Tryd.ntmps19
    go_wp2
    go_ret
    exact ⟨ret_bool (by rw [HA.out]), rfl⟩
theorem cvAt_new (W : World) (k n : Int) (s : ByteArray) (t : TypeId) : CvAt (W.alloc (.cells #[.int .i64 k, .int .i64 n, .string s] t)) W.heap.size 0 (k, n, s) := ⟨by go_simp, by go_simp, by go_simp⟩
theorem two_boxes {W W' : World} {k n k' n' : Int} {s s' : ByteArray} {t : TypeId} (h : Below (W.heap.size + 1 + 1) ((W.alloc (.cells #[.int .i64 k, .int .i64 n, .string s] t)).alloc (.cells #[.int .i64 k', .int .i64 n', .string s'] t)) W') : CvAt W' W.heap.size 0 (k, n, s) ∧ CvAt W' (W.heap.size + 1) 0 (k', n', s') := by
  have h1 := cvAt_new W k n s t
  have h2 := cvAt_new (W.alloc (.cells #[.int .i64 k, .int .i64 n, .string s] t)) k' n' s' t
  rw [World.size_alloc] at h2
  exact ⟨(h1.next ((Below.refl (W.heap.size + 1) (W.alloc (.cells #[.int .i64 k, .int .i64 n, .string s] t))).alloc (by simp) (.cells #[.int .i64 k', .int .i64 n', .string s'] t)) (Nat.lt_succ_self _)).next h (by omega), h2.next h (by omega)⟩
theorem at_zero (s p : Bt) : atL s p 0 = p.isPrefixOf s := rfl
theorem at_end (s p : Bt) : atL s p ((s.length : Int) - (p.length : Int)) = p.isSuffixOf s := by
  unfold atL
  by_cases h : p.length ≤ s.length
  · rw [decide_eq_true (by omega), Bool.true_and, show ((s.length : Int) - (p.length : Int)).toNat = s.length - p.length from by omega]
    unfold occL
    rw [Bool.eq_iff_iff, List.isPrefixOf_iff_prefix, List.isSuffixOf_iff_suffix]
    constructor
    · intro hp
      have he : p = s.drop (s.length - p.length) := hp.eq_of_length (by rw [List.length_drop]; omega)
      rw [he]
      exact List.drop_suffix _ _
    · rintro ⟨r, rfl⟩
      simp
  · rw [decide_eq_false (by omega), Bool.false_and]
    symm
    rw [Bool.eq_false_iff]
    intro h2
    have := (List.isSuffixOf_iff_suffix.1 h2).length_le
    omega
theorem ordC_range (a b : Cv) : ordC a b = -1 ∨ ordC a b = 0 ∨ ordC a b = 1 := by
  unfold ordC ordV
  split
  · split
    · exact ordL_range _ _
    · exact ordI_range _ _
  · exact ordI_range _ _
theorem kind_cases (k k' : Int) : ((k == k') = false ∧ ((k == k') && bytK k) = false) ∨ (k = 3 ∧ k' = 3 ∧ ((k == k') && bytK k) = true) ∨ (k = 4 ∧ k' = 4 ∧ ((k == k') && bytK k) = true) ∨ ((k == k') = true ∧ (k == 3) = false ∧ (k == 4) = false ∧ ((k == k') && bytK k) = (k == 7)) := by
  by_cases h : k = k'
  · subst h
    by_cases h3 : k = 3
    · subst h3; exact .inr (.inl ⟨rfl, rfl, rfl⟩)
    · by_cases h4 : k = 4
      · subst h4; exact .inr (.inr (.inl ⟨rfl, rfl, rfl⟩))
      · have b3 := beq_eq_false_iff_ne.2 h3
        have b4 := beq_eq_false_iff_ne.2 h4
        exact .inr (.inr (.inr ⟨by simp, b3, b4, by unfold bytK; rw [b3, b4]; simp⟩))
  · have b := beq_eq_false_iff_ne.2 h
    exact .inl ⟨b, by rw [b]; rfl⟩
set_option maxRecDepth 100000 in
set_option maxHeartbeats 1000000 in
theorem reft_eq (A : Option Addr) (c : Nat) (a b : Cv) (w : World) (hr : rightC true [61] [a, b] = 0) (hs : SlX w w.heap.size A [a, b]) :
    Calls Tryd.prog 11 #[.string ⟨#[61]⟩, .slice A (2 : Nat) c] w fun e w' => e = .returned (.tuple #[.bool (sayC [61] a b), .int .i64 0]) ∧ Below w.heap.size w w' := by
  obtain ⟨_, a9, b9, e9, ha, hb⟩ := right_zero hr
  injection e9 with e1 e2
  injection e2 with e2 _
  subst e1 e2
  have hza := may_size ha
  have hzb := may_size hb
  have hmx : 100000 ≤ maxLen := by decide
  have HR := Lib.hid (right_any ⟨#[61]⟩ true A c [a, b] w hs (by simp) (fun v hv => by simp at hv; rcases hv with rfl | rfl <;> omega))
  rw [show (⟨#[61]⟩ : ByteArray).data.toList = [61] from rfl, hr] at HR
  obtain ⟨blk, o, rfl, hlt, hcs⟩ := hs (by simp)
  have h0 := hcs 0 a rfl
  have h1 := hcs 1 b rfl
  rw [Nat.zero_mul, Nat.add_zero] at h0
  rw [Nat.one_mul] at h1
  have HX := Lib.hid (ordC_range a b)
  obtain ⟨k, n, s⟩ := a
  obtain ⟨k', n', s'⟩ := b
  simp only at hza hzb
  have HA := Lib.hid (And.intro h0 h1)
  have HC := Lib.hid (fun X => refCompare_any k n s k' n' s' X (by omega) (by omega))
  replace HR : Hid (Calls Tryd.prog 17 #[.string ⟨#[61]⟩, .slice (some ⟨blk, o, none⟩) (2 : Nat) c, .bool true] w fun e w' => e = .returned (.int .i64 0) ∧ Below w.heap.size w w') := HR
  have HS : Hid (sayC [61] (k, n, s) (k', n', s') = (fun x : Int => (x == 0)) (ordV k n s k' n' s')) := rfl
  replace HX : Hid (ordV k n s k' n' s' = -1 ∨ ordV k n s k' n' s' = 0 ∨ ordV k n s k' n' s' = 1) := HX.out
  obtain ⟨x, hx⟩ : ∃ x, ordV k n s k' n' s' = x := ⟨_, rfl⟩
  rw [hx] at HC HS HX
  clear hx hcs h0 h1 hza hzb hs hr ha hb
  go_enter Tryd.func11, Tryd.ntmps11
  go_wp2_with fail
  refine HR.out.mono ?_
  rintro e w1 ⟨rfl, hb1⟩
  have hA1 : CvAt w1 blk o (k, n, s) ∧ CvAt w1 blk (o + 3) (k', n', s') := ⟨HA.out.1.next hb1 hlt, HA.out.2.next hb1 hlt⟩
  have hA2 := CvAt.next hA1.2 ((Below.refl w1.heap.size w1).alloc (Nat.le_refl _) (.cells #[.int .i64 k, .int .i64 n, .string s] 43)) (Nat.lt_of_lt_of_le hlt hb1.size)
  obtain ⟨c0, c1, c2⟩ := hA1.1
  obtain ⟨d0, d1, d2⟩ := hA2
  simp only at c0 c1 c2 d0 d1 d2
  have HB1 := Lib.hid ((hb1.alloc hb1.size (.cells #[.int .i64 k, .int .i64 n, .string s] 43)).alloc (by have := hb1.size; simp; omega) (.cells #[.int .i64 k', .int .i64 n', .string s'] 43))
  have HZ1 := Lib.hid hb1.size
  clear hb1 hA1
  go_wp2_with fail
  clear c0 c1 c2 d0 d1 d2
  refine (HC.out _).mono ?_
  rintro e w3 ⟨rfl, hb3⟩
  have HB3 := Lib.hid (HB1.out.trans (hb3.mono (by have := HZ1.out; simp; omega)))
  obtain ⟨⟨u0, u1, u2⟩, ⟨v0, v1, v2⟩⟩ := two_boxes (hb3.mono (by simp))
  simp only [Nat.zero_add] at u0 u1 u2 v0 v1 v2
  clear hb3
  rcases kind_cases k k' with ⟨hq, _⟩ | ⟨rfl, rfl, _⟩ | ⟨rfl, rfl, _⟩ | ⟨hq, hq3, hq4, _⟩
  all_goals
    go_wp2
    go_ret2
    exact ⟨by rw [HS.out]; rcases HX.out with rfl | rfl | rfl <;> rfl, HB3.out⟩
set_option maxRecDepth 100000 in
set_option maxHeartbeats 1000000 in
theorem reft_ne (A : Option Addr) (c : Nat) (a b : Cv) (w : World) (hr : rightC true [33, 61] [a, b] = 0) (hs : SlX w w.heap.size A [a, b]) :
    Calls Tryd.prog 11 #[.string ⟨#[33, 61]⟩, .slice A (2 : Nat) c] w fun e w' => e = .returned (.tuple #[.bool (sayC [33, 61] a b), .int .i64 0]) ∧ Below w.heap.size w w' := by
  obtain ⟨_, a9, b9, e9, ha, hb⟩ := right_zero hr
  injection e9 with e1 e2
  injection e2 with e2 _
  subst e1 e2
  have hza := may_size ha
  have hzb := may_size hb
  have hmx : 100000 ≤ maxLen := by decide
  have HR := Lib.hid (right_any ⟨#[33, 61]⟩ true A c [a, b] w hs (by simp) (fun v hv => by simp at hv; rcases hv with rfl | rfl <;> omega))
  rw [show (⟨#[33, 61]⟩ : ByteArray).data.toList = [33, 61] from rfl, hr] at HR
  obtain ⟨blk, o, rfl, hlt, hcs⟩ := hs (by simp)
  have h0 := hcs 0 a rfl
  have h1 := hcs 1 b rfl
  rw [Nat.zero_mul, Nat.add_zero] at h0
  rw [Nat.one_mul] at h1
  have HX := Lib.hid (ordC_range a b)
  obtain ⟨k, n, s⟩ := a
  obtain ⟨k', n', s'⟩ := b
  simp only at hza hzb
  have HA := Lib.hid (And.intro h0 h1)
  have HC := Lib.hid (fun X => refCompare_any k n s k' n' s' X (by omega) (by omega))
  replace HR : Hid (Calls Tryd.prog 17 #[.string ⟨#[33, 61]⟩, .slice (some ⟨blk, o, none⟩) (2 : Nat) c, .bool true] w fun e w' => e = .returned (.int .i64 0) ∧ Below w.heap.size w w') := HR
  have HS : Hid (sayC [33, 61] (k, n, s) (k', n', s') = (fun x : Int => (x != 0)) (ordV k n s k' n' s')) := rfl
  replace HX : Hid (ordV k n s k' n' s' = -1 ∨ ordV k n s k' n' s' = 0 ∨ ordV k n s k' n' s' = 1) := HX.out
  obtain ⟨x, hx⟩ : ∃ x, ordV k n s k' n' s' = x := ⟨_, rfl⟩
  rw [hx] at HC HS HX
  clear hx hcs h0 h1 hza hzb hs hr ha hb
  go_enter Tryd.func11, Tryd.ntmps11
  go_wp2_with fail
  refine HR.out.mono ?_
  rintro e w1 ⟨rfl, hb1⟩
  have hA1 : CvAt w1 blk o (k, n, s) ∧ CvAt w1 blk (o + 3) (k', n', s') := ⟨HA.out.1.next hb1 hlt, HA.out.2.next hb1 hlt⟩
  have hA2 := CvAt.next hA1.2 ((Below.refl w1.heap.size w1).alloc (Nat.le_refl _) (.cells #[.int .i64 k, .int .i64 n, .string s] 43)) (Nat.lt_of_lt_of_le hlt hb1.size)
  obtain ⟨c0, c1, c2⟩ := hA1.1
  obtain ⟨d0, d1, d2⟩ := hA2
  simp only at c0 c1 c2 d0 d1 d2
  have HB1 := Lib.hid ((hb1.alloc hb1.size (.cells #[.int .i64 k, .int .i64 n, .string s] 43)).alloc (by have := hb1.size; simp; omega) (.cells #[.int .i64 k', .int .i64 n', .string s'] 43))
  have HZ1 := Lib.hid hb1.size
  clear hb1 hA1
  go_wp2_with fail
  clear c0 c1 c2 d0 d1 d2
  refine (HC.out _).mono ?_
  rintro e w3 ⟨rfl, hb3⟩
  have HB3 := Lib.hid (HB1.out.trans (hb3.mono (by have := HZ1.out; simp; omega)))
  obtain ⟨⟨u0, u1, u2⟩, ⟨v0, v1, v2⟩⟩ := two_boxes (hb3.mono (by simp))
  simp only [Nat.zero_add] at u0 u1 u2 v0 v1 v2
  clear hb3
  rcases kind_cases k k' with ⟨hq, _⟩ | ⟨rfl, rfl, _⟩ | ⟨rfl, rfl, _⟩ | ⟨hq, hq3, hq4, _⟩
  all_goals
    go_wp2
    go_ret2
    exact ⟨by rw [HS.out]; rcases HX.out with rfl | rfl | rfl <;> rfl, HB3.out⟩
set_option maxRecDepth 100000 in
set_option maxHeartbeats 1000000 in
theorem reft_lt (A : Option Addr) (c : Nat) (a b : Cv) (w : World) (hr : rightC true [60] [a, b] = 0) (hs : SlX w w.heap.size A [a, b]) :
    Calls Tryd.prog 11 #[.string ⟨#[60]⟩, .slice A (2 : Nat) c] w fun e w' => e = .returned (.tuple #[.bool (sayC [60] a b), .int .i64 0]) ∧ Below w.heap.size w w' := by
  obtain ⟨_, a9, b9, e9, ha, hb⟩ := right_zero hr
  injection e9 with e1 e2
  injection e2 with e2 _
  subst e1 e2
  have hza := may_size ha
  have hzb := may_size hb
  have hmx : 100000 ≤ maxLen := by decide
  have HR := Lib.hid (right_any ⟨#[60]⟩ true A c [a, b] w hs (by simp) (fun v hv => by simp at hv; rcases hv with rfl | rfl <;> omega))
  rw [show (⟨#[60]⟩ : ByteArray).data.toList = [60] from rfl, hr] at HR
  obtain ⟨blk, o, rfl, hlt, hcs⟩ := hs (by simp)
  have h0 := hcs 0 a rfl
  have h1 := hcs 1 b rfl
  rw [Nat.zero_mul, Nat.add_zero] at h0
  rw [Nat.one_mul] at h1
  have HX := Lib.hid (ordC_range a b)
  obtain ⟨k, n, s⟩ := a
  obtain ⟨k', n', s'⟩ := b
  simp only at hza hzb
  have HA := Lib.hid (And.intro h0 h1)
  have HC := Lib.hid (fun X => refCompare_any k n s k' n' s' X (by omega) (by omega))
  replace HR : Hid (Calls Tryd.prog 17 #[.string ⟨#[60]⟩, .slice (some ⟨blk, o, none⟩) (2 : Nat) c, .bool true] w fun e w' => e = .returned (.int .i64 0) ∧ Below w.heap.size w w') := HR
  have HS : Hid (sayC [60] (k, n, s) (k', n', s') = (fun x : Int => decide (x < 0)) (ordV k n s k' n' s')) := rfl
  replace HX : Hid (ordV k n s k' n' s' = -1 ∨ ordV k n s k' n' s' = 0 ∨ ordV k n s k' n' s' = 1) := HX.out
  obtain ⟨x, hx⟩ : ∃ x, ordV k n s k' n' s' = x := ⟨_, rfl⟩
  rw [hx] at HC HS HX
  clear hx hcs h0 h1 hza hzb hs hr ha hb
  go_enter Tryd.func11, Tryd.ntmps11
  go_wp2_with fail
  refine HR.out.mono ?_
  rintro e w1 ⟨rfl, hb1⟩
  have hA1 : CvAt w1 blk o (k, n, s) ∧ CvAt w1 blk (o + 3) (k', n', s') := ⟨HA.out.1.next hb1 hlt, HA.out.2.next hb1 hlt⟩
  have hA2 := CvAt.next hA1.2 ((Below.refl w1.heap.size w1).alloc (Nat.le_refl _) (.cells #[.int .i64 k, .int .i64 n, .string s] 43)) (Nat.lt_of_lt_of_le hlt hb1.size)
  obtain ⟨c0, c1, c2⟩ := hA1.1
  obtain ⟨d0, d1, d2⟩ := hA2
  simp only at c0 c1 c2 d0 d1 d2
  have HB1 := Lib.hid ((hb1.alloc hb1.size (.cells #[.int .i64 k, .int .i64 n, .string s] 43)).alloc (by have := hb1.size; simp; omega) (.cells #[.int .i64 k', .int .i64 n', .string s'] 43))
  have HZ1 := Lib.hid hb1.size
  clear hb1 hA1
  go_wp2_with fail
  clear c0 c1 c2 d0 d1 d2
  refine (HC.out _).mono ?_
  rintro e w3 ⟨rfl, hb3⟩
  have HB3 := Lib.hid (HB1.out.trans (hb3.mono (by have := HZ1.out; simp; omega)))
  obtain ⟨⟨u0, u1, u2⟩, ⟨v0, v1, v2⟩⟩ := two_boxes (hb3.mono (by simp))
  simp only [Nat.zero_add] at u0 u1 u2 v0 v1 v2
  clear hb3
  rcases kind_cases k k' with ⟨hq, _⟩ | ⟨rfl, rfl, _⟩ | ⟨rfl, rfl, _⟩ | ⟨hq, hq3, hq4, _⟩
  all_goals
    go_wp2
    go_ret2
    exact ⟨by rw [HS.out]; rcases HX.out with rfl | rfl | rfl <;> rfl, HB3.out⟩
set_option maxRecDepth 100000 in
set_option maxHeartbeats 1000000 in
theorem reft_le (A : Option Addr) (c : Nat) (a b : Cv) (w : World) (hr : rightC true [60, 61] [a, b] = 0) (hs : SlX w w.heap.size A [a, b]) :
    Calls Tryd.prog 11 #[.string ⟨#[60, 61]⟩, .slice A (2 : Nat) c] w fun e w' => e = .returned (.tuple #[.bool (sayC [60, 61] a b), .int .i64 0]) ∧ Below w.heap.size w w' := by
  obtain ⟨_, a9, b9, e9, ha, hb⟩ := right_zero hr
  injection e9 with e1 e2
  injection e2 with e2 _
  subst e1 e2
  have hza := may_size ha
  have hzb := may_size hb
  have hmx : 100000 ≤ maxLen := by decide
  have HR := Lib.hid (right_any ⟨#[60, 61]⟩ true A c [a, b] w hs (by simp) (fun v hv => by simp at hv; rcases hv with rfl | rfl <;> omega))
  rw [show (⟨#[60, 61]⟩ : ByteArray).data.toList = [60, 61] from rfl, hr] at HR
  obtain ⟨blk, o, rfl, hlt, hcs⟩ := hs (by simp)
  have h0 := hcs 0 a rfl
  have h1 := hcs 1 b rfl
  rw [Nat.zero_mul, Nat.add_zero] at h0
  rw [Nat.one_mul] at h1
  have HX := Lib.hid (ordC_range a b)
  obtain ⟨k, n, s⟩ := a
  obtain ⟨k', n', s'⟩ := b
  simp only at hza hzb
  have HA := Lib.hid (And.intro h0 h1)
  have HC := Lib.hid (fun X => refCompare_any k n s k' n' s' X (by omega) (by omega))
  replace HR : Hid (Calls Tryd.prog 17 #[.string ⟨#[60, 61]⟩, .slice (some ⟨blk, o, none⟩) (2 : Nat) c, .bool true] w fun e w' => e = .returned (.int .i64 0) ∧ Below w.heap.size w w') := HR
  have HS : Hid (sayC [60, 61] (k, n, s) (k', n', s') = (fun x : Int => decide (x ≤ 0)) (ordV k n s k' n' s')) := rfl
  replace HX : Hid (ordV k n s k' n' s' = -1 ∨ ordV k n s k' n' s' = 0 ∨ ordV k n s k' n' s' = 1) := HX.out
  obtain ⟨x, hx⟩ : ∃ x, ordV k n s k' n' s' = x := ⟨_, rfl⟩
  rw [hx] at HC HS HX
  clear hx hcs h0 h1 hza hzb hs hr ha hb
  go_enter Tryd.func11, Tryd.ntmps11
  go_wp2_with fail
  refine HR.out.mono ?_
  rintro e w1 ⟨rfl, hb1⟩
  have hA1 : CvAt w1 blk o (k, n, s) ∧ CvAt w1 blk (o + 3) (k', n', s') := ⟨HA.out.1.next hb1 hlt, HA.out.2.next hb1 hlt⟩
  have hA2 := CvAt.next hA1.2 ((Below.refl w1.heap.size w1).alloc (Nat.le_refl _) (.cells #[.int .i64 k, .int .i64 n, .string s] 43)) (Nat.lt_of_lt_of_le hlt hb1.size)
  obtain ⟨c0, c1, c2⟩ := hA1.1
  obtain ⟨d0, d1, d2⟩ := hA2
  simp only at c0 c1 c2 d0 d1 d2
  have HB1 := Lib.hid ((hb1.alloc hb1.size (.cells #[.int .i64 k, .int .i64 n, .string s] 43)).alloc (by have := hb1.size; simp; omega) (.cells #[.int .i64 k', .int .i64 n', .string s'] 43))
  have HZ1 := Lib.hid hb1.size
  clear hb1 hA1
  go_wp2_with fail
  clear c0 c1 c2 d0 d1 d2
  refine (HC.out _).mono ?_
  rintro e w3 ⟨rfl, hb3⟩
  have HB3 := Lib.hid (HB1.out.trans (hb3.mono (by have := HZ1.out; simp; omega)))
  obtain ⟨⟨u0, u1, u2⟩, ⟨v0, v1, v2⟩⟩ := two_boxes (hb3.mono (by simp))
  simp only [Nat.zero_add] at u0 u1 u2 v0 v1 v2
  clear hb3
  rcases kind_cases k k' with ⟨hq, _⟩ | ⟨rfl, rfl, _⟩ | ⟨rfl, rfl, _⟩ | ⟨hq, hq3, hq4, _⟩
  all_goals
    go_wp2
    go_ret2
    exact ⟨by rw [HS.out]; rcases HX.out with rfl | rfl | rfl <;> rfl, HB3.out⟩
set_option maxRecDepth 100000 in
set_option maxHeartbeats 1000000 in
theorem reft_gt (A : Option Addr) (c : Nat) (a b : Cv) (w : World) (hr : rightC true [62] [a, b] = 0) (hs : SlX w w.heap.size A [a, b]) :
    Calls Tryd.prog 11 #[.string ⟨#[62]⟩, .slice A (2 : Nat) c] w fun e w' => e = .returned (.tuple #[.bool (sayC [62] a b), .int .i64 0]) ∧ Below w.heap.size w w' := by
  obtain ⟨_, a9, b9, e9, ha, hb⟩ := right_zero hr
  injection e9 with e1 e2
  injection e2 with e2 _
  subst e1 e2
  have hza := may_size ha
  have hzb := may_size hb
  have hmx : 100000 ≤ maxLen := by decide
  have HR := Lib.hid (right_any ⟨#[62]⟩ true A c [a, b] w hs (by simp) (fun v hv => by simp at hv; rcases hv with rfl | rfl <;> omega))
  rw [show (⟨#[62]⟩ : ByteArray).data.toList = [62] from rfl, hr] at HR
  obtain ⟨blk, o, rfl, hlt, hcs⟩ := hs (by simp)
  have h0 := hcs 0 a rfl
  have h1 := hcs 1 b rfl
  rw [Nat.zero_mul, Nat.add_zero] at h0
  rw [Nat.one_mul] at h1
  have HX := Lib.hid (ordC_range a b)
  obtain ⟨k, n, s⟩ := a
  obtain ⟨k', n', s'⟩ := b
  simp only at hza hzb
  have HA := Lib.hid (And.intro h0 h1)
  have HC := Lib.hid (fun X => refCompare_any k n s k' n' s' X (by omega) (by omega))
  replace HR : Hid (Calls Tryd.prog 17 #[.string ⟨#[62]⟩, .slice (some ⟨blk, o, none⟩) (2 : Nat) c, .bool true] w fun e w' => e = .returned (.int .i64 0) ∧ Below w.heap.size w w') := HR
  have HS : Hid (sayC [62] (k, n, s) (k', n', s') = (fun x : Int => decide (0 < x)) (ordV k n s k' n' s')) := rfl
  replace HX : Hid (ordV k n s k' n' s' = -1 ∨ ordV k n s k' n' s' = 0 ∨ ordV k n s k' n' s' = 1) := HX.out
  obtain ⟨x, hx⟩ : ∃ x, ordV k n s k' n' s' = x := ⟨_, rfl⟩
  rw [hx] at HC HS HX
  clear hx hcs h0 h1 hza hzb hs hr ha hb
  go_enter Tryd.func11, Tryd.ntmps11
  go_wp2_with fail
  refine HR.out.mono ?_
  rintro e w1 ⟨rfl, hb1⟩
  have hA1 : CvAt w1 blk o (k, n, s) ∧ CvAt w1 blk (o + 3) (k', n', s') := ⟨HA.out.1.next hb1 hlt, HA.out.2.next hb1 hlt⟩
  have hA2 := CvAt.next hA1.2 ((Below.refl w1.heap.size w1).alloc (Nat.le_refl _) (.cells #[.int .i64 k, .int .i64 n, .string s] 43)) (Nat.lt_of_lt_of_le hlt hb1.size)
  obtain ⟨c0, c1, c2⟩ := hA1.1
  obtain ⟨d0, d1, d2⟩ := hA2
  simp only at c0 c1 c2 d0 d1 d2
  have HB1 := Lib.hid ((hb1.alloc hb1.size (.cells #[.int .i64 k, .int .i64 n, .string s] 43)).alloc (by have := hb1.size; simp; omega) (.cells #[.int .i64 k', .int .i64 n', .string s'] 43))
  have HZ1 := Lib.hid hb1.size
  clear hb1 hA1
  go_wp2_with fail
  clear c0 c1 c2 d0 d1 d2
  refine (HC.out _).mono ?_
  rintro e w3 ⟨rfl, hb3⟩
  have HB3 := Lib.hid (HB1.out.trans (hb3.mono (by have := HZ1.out; simp; omega)))
  obtain ⟨⟨u0, u1, u2⟩, ⟨v0, v1, v2⟩⟩ := two_boxes (hb3.mono (by simp))
  simp only [Nat.zero_add] at u0 u1 u2 v0 v1 v2
  clear hb3
  rcases kind_cases k k' with ⟨hq, _⟩ | ⟨rfl, rfl, _⟩ | ⟨rfl, rfl, _⟩ | ⟨hq, hq3, hq4, _⟩
  all_goals
    go_wp2
    go_ret2
    exact ⟨by rw [HS.out]; rcases HX.out with rfl | rfl | rfl <;> rfl, HB3.out⟩
set_option maxRecDepth 100000 in
set_option maxHeartbeats 1000000 in
theorem reft_ge (A : Option Addr) (c : Nat) (a b : Cv) (w : World) (hr : rightC true [62, 61] [a, b] = 0) (hs : SlX w w.heap.size A [a, b]) :
    Calls Tryd.prog 11 #[.string ⟨#[62, 61]⟩, .slice A (2 : Nat) c] w fun e w' => e = .returned (.tuple #[.bool (sayC [62, 61] a b), .int .i64 0]) ∧ Below w.heap.size w w' := by
  obtain ⟨_, a9, b9, e9, ha, hb⟩ := right_zero hr
  injection e9 with e1 e2
  injection e2 with e2 _
  subst e1 e2
  have hza := may_size ha
  have hzb := may_size hb
  have hmx : 100000 ≤ maxLen := by decide
  have HR := Lib.hid (right_any ⟨#[62, 61]⟩ true A c [a, b] w hs (by simp) (fun v hv => by simp at hv; rcases hv with rfl | rfl <;> omega))
  rw [show (⟨#[62, 61]⟩ : ByteArray).data.toList = [62, 61] from rfl, hr] at HR
  obtain ⟨blk, o, rfl, hlt, hcs⟩ := hs (by simp)
  have h0 := hcs 0 a rfl
  have h1 := hcs 1 b rfl
  rw [Nat.zero_mul, Nat.add_zero] at h0
  rw [Nat.one_mul] at h1
  have HX := Lib.hid (ordC_range a b)
  obtain ⟨k, n, s⟩ := a
  obtain ⟨k', n', s'⟩ := b
  simp only at hza hzb
  have HA := Lib.hid (And.intro h0 h1)
  have HC := Lib.hid (fun X => refCompare_any k n s k' n' s' X (by omega) (by omega))
  replace HR : Hid (Calls Tryd.prog 17 #[.string ⟨#[62, 61]⟩, .slice (some ⟨blk, o, none⟩) (2 : Nat) c, .bool true] w fun e w' => e = .returned (.int .i64 0) ∧ Below w.heap.size w w') := HR
  have HS : Hid (sayC [62, 61] (k, n, s) (k', n', s') = (fun x : Int => decide (0 ≤ x)) (ordV k n s k' n' s')) := rfl
  replace HX : Hid (ordV k n s k' n' s' = -1 ∨ ordV k n s k' n' s' = 0 ∨ ordV k n s k' n' s' = 1) := HX.out
  obtain ⟨x, hx⟩ : ∃ x, ordV k n s k' n' s' = x := ⟨_, rfl⟩
  rw [hx] at HC HS HX
  clear hx hcs h0 h1 hza hzb hs hr ha hb
  go_enter Tryd.func11, Tryd.ntmps11
  go_wp2_with fail
  refine HR.out.mono ?_
  rintro e w1 ⟨rfl, hb1⟩
  have hA1 : CvAt w1 blk o (k, n, s) ∧ CvAt w1 blk (o + 3) (k', n', s') := ⟨HA.out.1.next hb1 hlt, HA.out.2.next hb1 hlt⟩
  have hA2 := CvAt.next hA1.2 ((Below.refl w1.heap.size w1).alloc (Nat.le_refl _) (.cells #[.int .i64 k, .int .i64 n, .string s] 43)) (Nat.lt_of_lt_of_le hlt hb1.size)
  obtain ⟨c0, c1, c2⟩ := hA1.1
  obtain ⟨d0, d1, d2⟩ := hA2
  simp only at c0 c1 c2 d0 d1 d2
  have HB1 := Lib.hid ((hb1.alloc hb1.size (.cells #[.int .i64 k, .int .i64 n, .string s] 43)).alloc (by have := hb1.size; simp; omega) (.cells #[.int .i64 k', .int .i64 n', .string s'] 43))
  have HZ1 := Lib.hid hb1.size
  clear hb1 hA1
  go_wp2_with fail
  clear c0 c1 c2 d0 d1 d2
  refine (HC.out _).mono ?_
  rintro e w3 ⟨rfl, hb3⟩
  have HB3 := Lib.hid (HB1.out.trans (hb3.mono (by have := HZ1.out; simp; omega)))
  obtain ⟨⟨u0, u1, u2⟩, ⟨v0, v1, v2⟩⟩ := two_boxes (hb3.mono (by simp))
  simp only [Nat.zero_add] at u0 u1 u2 v0 v1 v2
  clear hb3
  rcases kind_cases k k' with ⟨hq, _⟩ | ⟨rfl, rfl, _⟩ | ⟨rfl, rfl, _⟩ | ⟨hq, hq3, hq4, _⟩
  all_goals
    go_wp2
    go_ret2
    exact ⟨by rw [HS.out]; rcases HX.out with rfl | rfl | rfl <;> rfl, HB3.out⟩
end Go.Proofs.YtlblbghlchedpaaDoor
