/-
  CONTRACT: the document's Test, of has; Test whole.
-/
import Derived.Test.YtlblbghlchedpaaDoorCxRfu
namespace Go.Proofs.YtlblbghlchedpaaDoor
open Go.RowKit Go.Shelf

theorem any_step (s p : Bt) (j : Nat) : (List.range (j + 1)).any (occL s p) = ((List.range j).any (occL s p) || occL s p j) := by
  rw [List.range_succ, List.any_append]; simp
set_option maxRecDepth 100000 in
set_option maxHeartbeats 1000000 in
theorem reft_has (A : Option Addr) (c : Nat) (a b : Cv) (w : World) (hr : rightC true [104, 97, 115] [a, b] = 0) (hs : SlX w w.heap.size A [a, b]) :
    Calls Tryd.prog 11 #[.string ⟨#[104, 97, 115]⟩, .slice A (2 : Nat) c] w fun e w' => e = .returned (.tuple #[.bool (sayC [104, 97, 115] a b), .int .i64 0]) ∧ Below w.heap.size w w' := by
  obtain ⟨_, a9, b9, e9, ha, hb⟩ := right_zero hr
  injection e9 with e1 e2
  injection e2 with e2 _
  subst e1 e2
  have hza := may_size ha
  have hzb := may_size hb
  have hmx : 100000 ≤ maxLen := by decide
  have HR := Lib.hid (right_any ⟨#[104, 97, 115]⟩ true A c [a, b] w hs (by simp) (fun v hv => by simp at hv; rcases hv with rfl | rfl <;> omega))
  rw [show (⟨#[104, 97, 115]⟩ : ByteArray).data.toList = [104, 97, 115] from rfl, hr] at HR
  obtain ⟨blk, o, rfl, hlt, hcs⟩ := hs (by simp)
  have h0 := hcs 0 a rfl
  have h1 := hcs 1 b rfl
  rw [Nat.zero_mul, Nat.add_zero] at h0
  rw [Nat.one_mul] at h1
  have HX := Lib.hid (ordC_range a b)
  obtain ⟨k, n, s⟩ := a
  obtain ⟨k', n', s'⟩ := b
  simp only at hza hzb
  have HA := Lib.hid (And.intro h0 h1)
  have HC := Lib.hid (fun X => refCompare_any k n s k' n' s' X (by omega) (by omega))
  replace HR : Hid (Calls Tryd.prog 17 #[.string ⟨#[104, 97, 115]⟩, .slice (some ⟨blk, o, none⟩) (2 : Nat) c, .bool true] w fun e w' => e = .returned (.int .i64 0) ∧ Below w.heap.size w w') := HR
  have HAT : Hid (∀ (j : Nat) X, j ≤ s.size → Calls Tryd.prog 19 #[.string s, .string s', .int .i64 (j : Int)] X fun e w' => e = .returned (.bool (occL s.data.toList s'.data.toList j)) ∧ X = w') := fun j X hj => by
    have h9 := at_any s s' (j : Int) X (by omega) (by omega) (by omega) (by omega)
    unfold atL at h9
    rw [decide_eq_true (show (0 : Int) ≤ (j : Int) by omega)] at h9
    exact h9
  have HS : Hid (sayC [104, 97, 115] (k, n, s) (k', n', s') = (((k == k') && bytK k) && hasL s.data.toList s'.data.toList)) := rfl
  have HO : Hid (hasL s.data.toList s'.data.toList = (List.range (s.size + 1)).any (occL s.data.toList s'.data.toList)) := by
    show _ = _
    rw [has_occ, Array.length_toList]; rfl
  obtain ⟨x, hx⟩ : ∃ x, ordV k n s k' n' s' = x := ⟨_, rfl⟩
  rw [hx] at HC
  have hzi : (s.size : Int) ≤ 1000 := by omega
  have hzi' : (s'.size : Int) ≤ 1000 := by omega
  obtain ⟨P, hP⟩ : ∃ P, occL s.data.toList s'.data.toList = P := ⟨_, rfl⟩
  have HST := Lib.hid (fun j => any_step s.data.toList s'.data.toList j)
  rw [hP] at HO HST
  simp only [hP] at HAT
  clear hx hP hcs h0 h1 hza hzb hs hr ha hb HX
  go_enter Tryd.func11, Tryd.ntmps11
  go_wp2_with fail
  refine HR.out.mono ?_
  rintro e w1 ⟨rfl, hb1⟩
  have hA1 : CvAt w1 blk o (k, n, s) ∧ CvAt w1 blk (o + 3) (k', n', s') := ⟨HA.out.1.next hb1 hlt, HA.out.2.next hb1 hlt⟩
  have hA2 := CvAt.next hA1.2 ((Below.refl w1.heap.size w1).alloc (Nat.le_refl _) (.cells #[.int .i64 k, .int .i64 n, .string s] 43)) (Nat.lt_of_lt_of_le hlt hb1.size)
  obtain ⟨c0, c1, c2⟩ := hA1.1
  obtain ⟨d0, d1, d2⟩ := hA2
  simp only at c0 c1 c2 d0 d1 d2
  have HB1 := Lib.hid ((hb1.alloc hb1.size (.cells #[.int .i64 k, .int .i64 n, .string s] 43)).alloc (by have := hb1.size; simp; omega) (.cells #[.int .i64 k', .int .i64 n', .string s'] 43))
  have HZ1 := Lib.hid hb1.size
  clear hb1 hA1
  go_wp2_with fail
  clear c0 c1 c2 d0 d1 d2
  refine (HC.out _).mono ?_
  rintro e w3 ⟨rfl, hb3⟩
  have HB3 := Lib.hid (HB1.out.trans (hb3.mono (by have := HZ1.out; simp; omega)))
  obtain ⟨⟨u0, u1, u2⟩, ⟨v0, v1, v2⟩⟩ := two_boxes (hb3.mono (by simp))
  simp only [Nat.zero_add] at u0 u1 u2 v0 v1 v2
  clear hb3
  rcases kind_cases k k' with ⟨hq, hsm⟩ | ⟨rfl, rfl, hsm⟩ | ⟨rfl, rfl, hsm⟩ | ⟨hq, hq3, hq4, hsm⟩
  all_goals rw [hsm] at HS
  all_goals clear hsm
  · go_wp2
    go_loopw [13, 14, 15] (fun m i _ wr => ∃ j : Nat, j ≤ s.size + 1 ∧ i = .int .i64 j ∧ m = .bool ((List.range j).any P) ∧ wr = w3) (fun _ i _ _ => s.size + 1 - (intOf i).toNat)
    case atStart => exact ⟨0, Nat.zero_le _, rfl, rfl, rfl⟩
    case round =>
      obtain ⟨j, hj, rfl, rfl, rfl⟩ := hrel
      by_cases h1 : j ≤ s.size
      · have h1i : (j : Int) ≤ (s.size : Int) := by omega
        have HA2 := Lib.hid (HAT.out j)
        have HS2 := HST.out j
        obtain ⟨mv, hmv⟩ : ∃ mv, (List.range j).any P = mv := ⟨_, rfl⟩
        obtain ⟨pv, hpv⟩ : ∃ pv, P j = pv := ⟨_, rfl⟩
        rw [hmv, hpv] at HS2
        rw [hpv] at HA2
        rw [hmv]
        have HS3 := Lib.hid HS2
        clear HS2 hmv hpv
        go_wp2_with fail
        refine (HA2.out _ h1).mono ?_
        rintro e w4 ⟨rfl, rfl⟩
        cases mv
        all_goals
          go_wp2
          go_roundw
          case rel => exact ⟨j + 1, by omega, by go_num, by rw [HS3.out]; rfl, trivial⟩
          case measure => simp [intOf]; omega
      · have h1i : ¬ (j : Int) ≤ (s.size : Int) := by omega
        obtain rfl : j = s.size + 1 := by omega
        rw [← HO.out]
        obtain ⟨hv, hhv⟩ : ∃ hv, hasL s.data.toList s'.data.toList = hv := ⟨_, rfl⟩
        have HS4 := HS.out
        rw [hhv] at HS4 ⊢
        have HS5 := Lib.hid HS4
        clear HS4 hhv HS
        go_wp2
        go_ret2
        exact ⟨by rw [HS5.out]; rfl, HB3.out⟩
  · go_wp2
    go_loopw [13, 14, 15] (fun m i _ wr => ∃ j : Nat, j ≤ s.size + 1 ∧ i = .int .i64 j ∧ m = .bool ((List.range j).any P) ∧ wr = w3) (fun _ i _ _ => s.size + 1 - (intOf i).toNat)
    case atStart => exact ⟨0, Nat.zero_le _, rfl, rfl, rfl⟩
    case round =>
      obtain ⟨j, hj, rfl, rfl, rfl⟩ := hrel
      by_cases h1 : j ≤ s.size
      · have h1i : (j : Int) ≤ (s.size : Int) := by omega
        have HA2 := Lib.hid (HAT.out j)
        have HS2 := HST.out j
        obtain ⟨mv, hmv⟩ : ∃ mv, (List.range j).any P = mv := ⟨_, rfl⟩
        obtain ⟨pv, hpv⟩ : ∃ pv, P j = pv := ⟨_, rfl⟩
        rw [hmv, hpv] at HS2
        rw [hpv] at HA2
        rw [hmv]
        have HS3 := Lib.hid HS2
        clear HS2 hmv hpv
        go_wp2_with fail
        refine (HA2.out _ h1).mono ?_
        rintro e w4 ⟨rfl, rfl⟩
        cases mv
        all_goals
          go_wp2
          go_roundw
          case rel => exact ⟨j + 1, by omega, by go_num, by rw [HS3.out]; rfl, trivial⟩
          case measure => simp [intOf]; omega
      · have h1i : ¬ (j : Int) ≤ (s.size : Int) := by omega
        obtain rfl : j = s.size + 1 := by omega
        rw [← HO.out]
        obtain ⟨hv, hhv⟩ : ∃ hv, hasL s.data.toList s'.data.toList = hv := ⟨_, rfl⟩
        have HS4 := HS.out
        rw [hhv] at HS4 ⊢
        have HS5 := Lib.hid HS4
        clear HS4 hhv HS
        go_wp2
        go_ret2
        exact ⟨by rw [HS5.out]; rfl, HB3.out⟩
  · go_wp2
    go_loopw [13, 14, 15] (fun m i _ wr => ∃ j : Nat, j ≤ s.size + 1 ∧ i = .int .i64 j ∧ m = .bool ((List.range j).any P) ∧ wr = w3) (fun _ i _ _ => s.size + 1 - (intOf i).toNat)
    case atStart => exact ⟨0, Nat.zero_le _, rfl, rfl, rfl⟩
    case round =>
      obtain ⟨j, hj, rfl, rfl, rfl⟩ := hrel
      by_cases h1 : j ≤ s.size
      · have h1i : (j : Int) ≤ (s.size : Int) := by omega
        have HA2 := Lib.hid (HAT.out j)
        have HS2 := HST.out j
        obtain ⟨mv, hmv⟩ : ∃ mv, (List.range j).any P = mv := ⟨_, rfl⟩
        obtain ⟨pv, hpv⟩ : ∃ pv, P j = pv := ⟨_, rfl⟩
        rw [hmv, hpv] at HS2
        rw [hpv] at HA2
        rw [hmv]
        have HS3 := Lib.hid HS2
        clear HS2 hmv hpv
        go_wp2_with fail
        refine (HA2.out _ h1).mono ?_
        rintro e w4 ⟨rfl, rfl⟩
        cases mv
        all_goals
          go_wp2
          go_roundw
          case rel => exact ⟨j + 1, by omega, by go_num, by rw [HS3.out]; rfl, trivial⟩
          case measure => simp [intOf]; omega
      · have h1i : ¬ (j : Int) ≤ (s.size : Int) := by omega
        obtain rfl : j = s.size + 1 := by omega
        rw [← HO.out]
        obtain ⟨hv, hhv⟩ : ∃ hv, hasL s.data.toList s'.data.toList = hv := ⟨_, rfl⟩
        have HS4 := HS.out
        rw [hhv] at HS4 ⊢
        have HS5 := Lib.hid HS4
        clear HS4 hhv HS
        go_wp2
        go_ret2
        exact ⟨by rw [HS5.out]; rfl, HB3.out⟩
  · cases h7 : (k == 7)
    · rw [h7] at HS
      go_wp2
      go_loopw [13, 14, 15] (fun m i _ wr => ∃ j : Nat, j ≤ s.size + 1 ∧ i = .int .i64 j ∧ m = .bool ((List.range j).any P) ∧ wr = w3) (fun _ i _ _ => s.size + 1 - (intOf i).toNat)
      case atStart => exact ⟨0, Nat.zero_le _, rfl, rfl, rfl⟩
      case round =>
        obtain ⟨j, hj, rfl, rfl, rfl⟩ := hrel
        by_cases h1 : j ≤ s.size
        · have h1i : (j : Int) ≤ (s.size : Int) := by omega
          have HA2 := Lib.hid (HAT.out j)
          have HS2 := HST.out j
          obtain ⟨mv, hmv⟩ : ∃ mv, (List.range j).any P = mv := ⟨_, rfl⟩
          obtain ⟨pv, hpv⟩ : ∃ pv, P j = pv := ⟨_, rfl⟩
          rw [hmv, hpv] at HS2
          rw [hpv] at HA2
          rw [hmv]
          have HS3 := Lib.hid HS2
          clear HS2 hmv hpv
          go_wp2_with fail
          refine (HA2.out _ h1).mono ?_
          rintro e w4 ⟨rfl, rfl⟩
          cases mv
          all_goals
            go_wp2
            go_roundw
            case rel => exact ⟨j + 1, by omega, by go_num, by rw [HS3.out]; rfl, trivial⟩
            case measure => simp [intOf]; omega
        · have h1i : ¬ (j : Int) ≤ (s.size : Int) := by omega
          obtain rfl : j = s.size + 1 := by omega
          rw [← HO.out]
          obtain ⟨hv, hhv⟩ : ∃ hv, hasL s.data.toList s'.data.toList = hv := ⟨_, rfl⟩
          have HS4 := HS.out
          rw [hhv] at HS4 ⊢
          have HS5 := Lib.hid HS4
          clear HS4 hhv HS
          go_wp2
          go_ret2
          exact ⟨by rw [HS5.out]; rfl, HB3.out⟩
    · rw [h7] at HS
      go_wp2
      go_loopw [13, 14, 15] (fun m i _ wr => ∃ j : Nat, j ≤ s.size + 1 ∧ i = .int .i64 j ∧ m = .bool ((List.range j).any P) ∧ wr = w3) (fun _ i _ _ => s.size + 1 - (intOf i).toNat)
      case atStart => exact ⟨0, Nat.zero_le _, rfl, rfl, rfl⟩
      case round =>
        obtain ⟨j, hj, rfl, rfl, rfl⟩ := hrel
        by_cases h1 : j ≤ s.size
        · have h1i : (j : Int) ≤ (s.size : Int) := by omega
          have HA2 := Lib.hid (HAT.out j)
          have HS2 := HST.out j
          obtain ⟨mv, hmv⟩ : ∃ mv, (List.range j).any P = mv := ⟨_, rfl⟩
          obtain ⟨pv, hpv⟩ : ∃ pv, P j = pv := ⟨_, rfl⟩
          rw [hmv, hpv] at HS2
          rw [hpv] at HA2
          rw [hmv]
          have HS3 := Lib.hid HS2
          clear HS2 hmv hpv
          go_wp2_with fail
          refine (HA2.out _ h1).mono ?_
          rintro e w4 ⟨rfl, rfl⟩
          cases mv
          all_goals
            go_wp2
            go_roundw
            case rel => exact ⟨j + 1, by omega, by go_num, by rw [HS3.out]; rfl, trivial⟩
            case measure => simp [intOf]; omega
        · have h1i : ¬ (j : Int) ≤ (s.size : Int) := by omega
          obtain rfl : j = s.size + 1 := by omega
          rw [← HO.out]
          obtain ⟨hv, hhv⟩ : ∃ hv, hasL s.data.toList s'.data.toList = hv := ⟨_, rfl⟩
          have HS4 := HS.out
          rw [hhv] at HS4 ⊢
          have HS5 := Lib.hid HS4
          clear HS4 hhv HS
          go_wp2
          go_ret2
          exact ⟨by rw [HS5.out]; rfl, HB3.out⟩
theorem reft_any (n : Bt) (A : Option Addr) (c : Nat) (a b : Cv) (w : World) (hr : rightC true n [a, b] = 0) (hs : SlX w w.heap.size A [a, b]) :
    Calls Tryd.prog 11 #[.string (strB n), .slice A (2 : Nat) c] w fun e w' => e = .returned (.tuple #[.bool (sayC n a b), .int .i64 0]) ∧ Below w.heap.size w w' := by
  have hn := (right_zero hr).1
  unfold fam0 at hn
  simp only [List.mem_cons, List.not_mem_nil, or_false] at hn
  rcases hn with rfl | rfl | rfl | rfl | rfl | rfl | rfl | rfl | rfl | rfl
  · exact reft_eq A c a b w hr hs
  · exact reft_ne A c a b w hr hs
  · exact reft_lt A c a b w hr hs
  · exact reft_le A c a b w hr hs
  · exact reft_gt A c a b w hr hs
  · exact reft_ge A c a b w hr hs
  · exact reft_begins A c a b w hr hs
  · exact reft_ends A c a b w hr hs
  · exact reft_has A c a b w hr hs
  · exact reft_kind A c a b w hr hs
set_option maxRecDepth 100000 in
set_option maxHeartbeats 1000000 in
theorem refTest_any (s : ByteArray) (A : Option Addr) (c : Nat) (l : List Cv) (w : World) (hs : SlX w w.heap.size A l) (hl : l.length ≤ 1000) (hz : ∀ v ∈ l, v.2.2.size ≤ maxLen) :
    Calls Tryd.prog 11 #[.string s, .slice A l.length c] w fun e w' => e = .returned (.tuple #[.bool (testV s.data.toList l).1, .int .i64 (testV s.data.toList l).2]) ∧ Below w.heap.size w w' := by
  obtain ⟨q, hq⟩ : ∃ q, rightC true s.data.toList l = q := ⟨_, rfl⟩
  by_cases h0 : q = 0
  · subst h0
    obtain ⟨hn, a, b, rfl, ha, hb⟩ := right_zero hq
    have h9 := reft_any s.data.toList A c a b w hq hs
    rw [strB_of] at h9
    rw [test_yes hq]
    exact h9
  · have HC := Lib.hid (right_any s true A c l w hs hl hz)
    have hb : (q == 0) = false := beq_eq_false_iff_ne.2 h0
    have HT := Lib.hid (test_no hq h0)
    rw [hq] at HC
    clear hs hq h0
    go_enter Tryd.func11, Tryd.ntmps11
    go_wp2_with fail
    refine HC.out.mono ?_
    rintro e w1 ⟨rfl, hb1⟩
    have HB1 := Lib.hid hb1
    clear hb1
    go_wp2
    go_ret2
    exact ⟨by rw [HT.out]; rfl, HB1.out⟩
end Go.Proofs.YtlblbghlchedpaaDoor
