/-
  THE LAW CalcTests: its walk.
-/
import Derived.Test.YtlblbghlchedpaaDoorCxRfh
namespace Go.Proofs.YtlblbghlchedpaaDoor
open Go.RowKit Go.Shelf

/-- are values more than the law goes through? -/
def greatC (s : ByteArray) (l : List Cv) : Bool := decide (100 < s.size) || decide (10 < l.length) || l.any fun v => decide (1100 < v.2.2.size)
set_option maxRecDepth 100000 in
set_option maxHeartbeats 1000000 in
theorem greatC_any (s : ByteArray) (A : Option Addr) (c : Nat) (l : List Cv) (w : World) (B : Nat) (hs : SlX w B A l) :
    Calls Tryd.prog 9 #[.string s, .slice A l.length c] w fun e w' => e = .returned (.bool (greatC s l)) ∧ w = w' := by
  have HS := Lib.hid hs
  clear hs
  by_cases h1 : 100 < s.size
  · have h1i : (100 : Int) < (s.size : Int) := by omega
    have HE : Hid (greatC s l = true) := by show _ = _; unfold greatC; rw [decide_eq_true h1]; rfl
    go_enter Tryd.func9, Tryd.ntmps9
    go_wp2
    go_ret
    exact ⟨ret_bool (by rw [HE.out]), rfl⟩
  · have h1i : ¬ (100 : Int) < (s.size : Int) := by omega
    by_cases h2 : 10 < l.length
    · have h2i : (10 : Int) < (l.length : Int) := by omega
      have HE : Hid (greatC s l = true) := by show _ = _; unfold greatC; rw [decide_eq_true h2]; simp
      go_enter Tryd.func9, Tryd.ntmps9
      go_wp2
      go_ret
      exact ⟨ret_bool (by rw [HE.out]), rfl⟩
    · have h2i : ¬ (10 : Int) < (l.length : Int) := by omega
      have HG : Hid (greatC s l = l.any fun v => decide (1100 < v.2.2.size)) := by show _ = _; unfold greatC; rw [decide_eq_false h1, decide_eq_false h2]; rfl
      go_enter Tryd.func9, Tryd.ntmps9
      go_wp2
      go_loopw [4, 5, 16] (fun _ _ i wr => ∃ j : Nat, j ≤ l.length ∧ i = .int .i64 j ∧ wr = w ∧ Hid (((l.take j).any fun v => decide (1100 < v.2.2.size)) = false)) (fun _ _ i _ => l.length - (intOf i).toNat)
      case atStart => exact ⟨0, Nat.zero_le _, rfl, rfl, rfl⟩
      case round =>
        obtain ⟨j, hj, rfl, rfl, HJ⟩ := hrel
        by_cases h3 : j < l.length
        · have h3i : (j : Int) < (l.length : Int) := by omega
          obtain ⟨b, o, rfl, hlt, hc⟩ := HS.out.at_ h3
          have hts := List.take_succ_eq_append_getElem h3
          have hmem := List.getElem_mem h3
          obtain ⟨x, hx⟩ : ∃ x, l[j] = x := ⟨_, rfl⟩
          rw [hx] at hc hts hmem
          obtain ⟨x1, x2, x3⟩ := x
          have c2 := hc.c2
          simp only at c2
          have HTS := Lib.hid hts
          have HM := Lib.hid hmem
          clear hc hx hts hmem
          by_cases h4 : 1100 < x3.size
          · have h4i : (1100 : Int) < (x3.size : Int) := by omega
            have HE : Hid (greatC s l = true) := by
              show _ = _
              rw [HG.out, List.any_eq_true]
              exact ⟨_, HM.out, decide_eq_true h4⟩
            go_wp2
            go_ret
            exact ⟨ret_bool (by rw [HE.out]), rfl⟩
          · have h4i : ¬ (1100 : Int) < (x3.size : Int) := by omega
            have HE : Hid (((l.take (j + 1)).any fun v => decide (1100 < v.2.2.size)) = false) := by
              show _ = _
              rw [HTS.out, List.any_append, HJ.out]
              simp; omega
            go_wp2
            go_roundw
            case rel => exact ⟨j + 1, by omega, by go_num, trivial, HE.out⟩
            case measure => simp [intOf]; omega
        · have h3i : ¬ (j : Int) < (l.length : Int) := by omega
          have HE : Hid (greatC s l = false) := by
            show _ = _
            rw [HG.out]
            have := HJ.out
            rwa [List.take_of_length_le (by omega)] at this
          go_wp2
          go_ret
          exact ⟨ret_bool (by rw [HE.out]), rfl⟩
set_option maxRecDepth 100000 in
set_option maxHeartbeats 1000000 in
theorem testsL_any (s : ByteArray) (A : Option Addr) (c : Nat) (l : List Cv) (w : World) (hF : FamAt w w.heap.size) (hmx : MaxAt w) (hs : SlX w w.heap.size A l) :
    Calls Tryd.prog 4 #[.string s, .slice A l.length c] w fun e w' => e = .returned (.bool true) ∧ Below w.heap.size w w' := by
  have HG := Lib.hid (greatC_any s A c l w _ hs)
  cases hg : greatC s l with
  | true =>
    rw [hg] at HG
    clear hF hmx hs hg
    go_enter Tryd.func4, Tryd.ntmps4
    go_wp2_with fail
    refine HG.out.mono ?_
    rintro e w1 ⟨rfl, rfl⟩
    go_wp2
    go_ret
    exact ⟨rfl, Below.refl _ _⟩
  | false =>
    rw [hg] at HG
    have hg2 := hg
    unfold greatC at hg2
    simp only [Bool.or_eq_false_iff, decide_eq_false_iff_not] at hg2
    have hl : l.length ≤ 1000 := by omega
    have hz : ∀ v ∈ l, v.2.2.size ≤ maxLen := fun v hv => by
      have h9 := List.any_eq_false.1 hg2.2 v hv
      simp only [decide_eq_true_eq] at h9
      have : 100000 ≤ maxLen := by decide
      omega
    have HT := Lib.hid (test_any s A c l w hF hmx hs hl hz)
    have HR := Lib.hid (fun X h => refTest_any s A c l X h hl hz)
    have HS := Lib.hid hs
    obtain ⟨x, hx⟩ : ∃ x, testV s.data.toList l = x := ⟨_, rfl⟩
    rw [hx] at HT HR
    obtain ⟨x1, x2⟩ := x
    clear hF hmx hs hg hg2 hl hz hx
    go_enter Tryd.func4, Tryd.ntmps4
    go_wp2_with fail
    refine HG.out.mono ?_
    rintro e w1 ⟨rfl, rfl⟩
    go_wp2_with fail
    refine HT.out.mono ?_
    rintro e w2 ⟨rfl, hb2⟩
    have HB2 := Lib.hid hb2
    clear hb2
    go_wp2_with fail
    refine (HR.out _ ((HS.out.next HB2.out (Nat.le_refl _)).more HB2.out.size)).mono ?_
    rintro e w3 ⟨rfl, hb3⟩
    have HB3 := Lib.hid (HB2.out.trans (hb3.mono HB2.out.size))
    clear hb3
    cases x1
    all_goals
      go_wp2
      go_ret
      exact ⟨ret_bool (by simp), HB3.out⟩
end Go.Proofs.YtlblbghlchedpaaDoor
