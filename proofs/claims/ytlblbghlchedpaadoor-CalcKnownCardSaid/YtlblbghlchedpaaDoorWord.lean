/-
  CONTRACTS: is a text a word (the program's, the document's)?
-/
import Derived.Test.YtlblbghlchedpaaDoorLeaf
import Derived.Deep.QuietTactic
import Derived.BigQuiet
import Derived.Lib.Hide
namespace Go.Proofs.YtlblbghlchedpaaDoor
open Go.RowKit

theorem word_empty {s : ByteArray} (h : s.size = 0) : wordB s = false := by
  have : s.data.toList = [] := by rw [← List.length_eq_zero_iff]; simpa using h
  unfold wordB; rw [this]; rfl
theorem word_cons {s : ByteArray} (h : 0 < s.size) : wordB s = (decide (s.size ≤ 64) && lowI s[0].toNat && (s.data.toList.drop 1).all (fun x => inwI x.toNat)) := by
  have h0 := drop_at s 0 h
  simp only [List.drop_zero, Nat.zero_add] at h0
  have hl : s.data.toList.length = s.size := Array.length_toList
  unfold wordB
  rw [h0] at hl ⊢
  have : decide ((List.drop 1 s.data.toList).length < 64) = decide (s.size ≤ 64) := by
    rw [List.length_cons] at hl
    rw [decide_eq_decide]; omega
  show (decide ((List.drop 1 s.data.toList).length < 64) && _ && _) = _
  rw [this]; rfl

theorem emp_no {s : ByteArray} (h : 0 < s.size) : s.toList.isEmpty = false := by
  rw [ByteArray.toList_eq, List.isEmpty_eq_false_iff]
  intro e
  have : s.data.toList.length = s.size := Array.length_toList
  rw [e] at this; simp at this; omega
theorem emp_ne {s : ByteArray} (h : 0 < s.size) : ¬ s.toList = [] := by
  have := emp_no h
  rwa [List.isEmpty_eq_false_iff] at this
theorem emp_yes {s : ByteArray} (h : s.size = 0) : s.toList = [] := by
  rw [ByteArray.toList_eq, ← List.length_eq_zero_iff]
  exact h

def allW (s : ByteArray) (k : Nat) : Bool := (s.data.toList.drop k).all (fun x => inwI x.toNat)
theorem allW_step {s : ByteArray} {k : Nat} (h : k < s.size) : allW s k = (inwI s[k].toNat && allW s (k + 1)) := by
  unfold allW; rw [drop_at s k h]; rfl
theorem allW_end {s : ByteArray} {k : Nat} (h : s.size ≤ k) : allW s k = true := by
  unfold allW; rw [drop_end s k h]; rfl

set_option maxHeartbeats 400000 in
theorem isWord_any (s : ByteArray) (w : World) (hs : s.size ≤ maxLen) :
    Calls Tryd.prog 54 #[.string s] w fun e w' => e = .returned (.bool (wordB s)) ∧ w = w' := by
  unfold maxLen at hs
  by_cases h0 : s.size = 0
  · have he := emp_yes h0
    have HW : Hid (wordB s = false) := word_empty h0
    go_enter Tryd.func54, Tryd.ntmps54
    go_wp2
    go_ret
    exact ⟨ret_bool HW.out.symm, rfl⟩
  · have hp : 0 < s.size := by omega
    have he := emp_no hp
    have hn := emp_ne hp
    have HW : Hid (wordB s = (decide (s.size ≤ 64) && lowI s[0].toNat && allW s 1)) := word_cons hp
    clear h0
    by_cases h1 : s.size ≤ 64
    · have h1' : (s.size : Int) ≤ 64 := by omega
      by_cases h2 : lowI (s[0].toNat : Int) = true
      · go_enter Tryd.func54, Tryd.ntmps54
        go_wp2_with (go_at_call 63; refine (isLetter_any _ _).mono ?_; rintro e w' ⟨rfl, rfl⟩)
        go_loop [3] (fun i => ∃ k : Nat, 1 ≤ k ∧ k ≤ s.size ∧ i = .int .i64 k ∧ Hid (allW s k = allW s 1)) (fun i => s.size - (intOf i).toNat)
        case atStart => exact ⟨1, by omega, by omega, rfl, rfl⟩
        case round =>
          obtain ⟨k, hk1, hk, rfl, HK⟩ := hrel
          by_cases hlt : k < s.size
          · have HS : Hid (allW s k = (inwI s[k].toNat && allW s (k + 1))) := allW_step hlt
            by_cases hc : inwI (s[k].toNat : Int) = true
            · go_wp2_with (go_at_call 64; refine (inWord_any _ _).mono ?_; rintro e w' ⟨rfl, rfl⟩)
              go_round
              case rel => exact ⟨k + 1, by omega, by omega, by go_num, by rw [← HK.out, HS.out, hc]; rfl⟩
              case measure => simp [intOf]; omega
            · have hc' : inwI (s[k].toNat : Int) = false := by simpa using hc
              go_wp2_with (go_at_call 64; refine (inWord_any _ _).mono ?_; rintro e w' ⟨rfl, rfl⟩)
              go_ret
              exact ⟨ret_bool (by rw [HW.out, ← HK.out, HS.out, hc']; simp), rfl⟩
          · have HE : Hid (allW s k = true) := allW_end (by omega)
            go_wp2
            go_ret
            exact ⟨ret_bool (by rw [HW.out, ← HK.out, HE.out, h2]; simp [h1]), rfl⟩
      · have h2' : lowI (s[0].toNat : Int) = false := by simpa using h2
        go_enter Tryd.func54, Tryd.ntmps54
        go_wp2_with (go_at_call 63; refine (isLetter_any _ _).mono ?_; rintro e w' ⟨rfl, rfl⟩)
        go_ret
        exact ⟨ret_bool (by rw [HW.out, h2']; simp), rfl⟩
    · have h1' : 64 < (s.size : Int) := by omega
      go_enter Tryd.func54, Tryd.ntmps54
      go_wp2
      go_ret
      exact ⟨ret_bool (by rw [HW.out]; simp [h1]), rfl⟩

theorem inwI_of_low {c : Int} (h : lowI c = true) : inwI c = true := by simp [inwI, h]
theorem inwI_of_dig {c : Int} (h : digI c = true) : inwI c = true := by simp [inwI, h]
theorem inwI_46 {c : Int} (h : c = 46) : inwI c = true := by simp [inwI, h]
theorem inwI_95 {c : Int} (h : c = 95) : inwI c = true := by simp [inwI, h]
theorem inwI_45 {c : Int} (h : c = 45) : inwI c = true := by simp [inwI, h]
theorem way_last {c : Int} (h1 : ¬ c = 46) (h2 : ¬ c = 95) (h3 : ¬ c = 45) (h : (((c != 46) = false ∨ (c != 95) = false) ∨ (c != 45) = false) ∨ (c != 47) = false) : inwI c = true := by
  simp at h
  have : c = 47 := by omega
  simp [inwI, this]
theorem way_no {c : Int} (h1 : ¬ lowI c = true) (h2 : ¬ digI c = true) (h : (((c != 46) = true ∧ (c != 95) = true) ∧ (c != 45) = true) ∧ (c != 47) = true) : inwI c = false := by
  simp at h
  simp [inwI, h1, h2, h]

set_option maxHeartbeats 400000 in
theorem refWord_any (s : ByteArray) (w : World) (hs : s.size ≤ maxLen) :
    Calls Tryd.prog 47 #[.string s] w fun e w' => e = .returned (.bool (wordB s)) ∧ w = w' := by
  unfold maxLen at hs
  by_cases h0 : s.size = 0
  · have he : (s.size : Int) < 1 := by omega
    have HW : Hid (wordB s = false) := word_empty h0
    clear h0
    go_enter Tryd.func47, Tryd.ntmps47
    go_wp2
    go_ret
    exact ⟨ret_bool HW.out.symm, rfl⟩
  · have hp : 0 < s.size := by omega
    have hp1 : 1 ≤ (s.size : Int) := by omega
    have HW : Hid (wordB s = (decide (s.size ≤ 64) && lowI s[0].toNat && allW s 1)) := word_cons hp
    have HA : Hid (allW s 0 = (inwI s[0].toNat && allW s 1)) := allW_step hp
    clear h0
    by_cases h1 : s.size ≤ 64
    · have h1' : (s.size : Int) ≤ 64 := by omega
      by_cases h2 : lowI (s[0].toNat : Int) = true
      · have HI : Hid (inwI (s[0].toNat : Int) = true) := inwI_of_low h2
        go_enter Tryd.func47, Tryd.ntmps47
        go_wp2_with (go_at_call 60; refine (lower_any _ _).mono ?_; rintro e w' ⟨rfl, rfl⟩)
        go_loop [3] (fun i => ∃ k : Nat, k ≤ s.size ∧ i = .int .i64 k ∧ Hid (allW s k = allW s 0)) (fun i => s.size - (intOf i).toNat)
        case atStart => exact ⟨0, by omega, rfl, rfl⟩
        case round =>
          obtain ⟨k, hk, rfl, HK⟩ := hrel
          by_cases hlt : k < s.size
          · have HS : Hid (allW s k = (inwI s[k].toNat && allW s (k + 1))) := allW_step hlt
            go_wp2_with (first | (go_at_call 60; refine (lower_any _ _).mono ?_; rintro e w' ⟨rfl, rfl⟩) | (go_at_call 61; refine (digit_any _ _).mono ?_; rintro e w' ⟨rfl, rfl⟩))
            all_goals first
              | (go_round
                 case rel => exact ⟨k + 1, by omega, by go_num, by rw [← HK.out, HS.out, show inwI (s[k].toNat : Int) = true from (by first | exact inwI_of_low ‹_› | exact inwI_of_dig ‹_› | exact inwI_46 ‹_› | exact inwI_95 ‹_› | exact inwI_45 ‹_› | exact way_last ‹_› ‹_› ‹_› ‹_›)]; rfl⟩
                 case measure => simp [intOf]; omega)
              | (go_ret
                 exact ⟨ret_bool (by rw [HW.out, h2]; have h9 := HA.out; rw [← HK.out, HS.out, HI.out, way_no (c := (s[k].toNat : Int)) ‹_› ‹_› ‹_›, Bool.false_and, Bool.true_and] at h9; rw [← h9, Bool.and_false]), rfl⟩)
          · have HE : Hid (allW s k = true) := allW_end (by omega)
            go_wp2
            go_ret
            exact ⟨ret_bool (by rw [HW.out, h2]; have := HA.out; rw [← HK.out, HE.out, HI.out] at this; simp [h1, ← this]), rfl⟩
      · have h2' : lowI (s[0].toNat : Int) = false := by simpa using h2
        go_enter Tryd.func47, Tryd.ntmps47
        go_wp2_with (go_at_call 60; refine (lower_any _ _).mono ?_; rintro e w' ⟨rfl, rfl⟩)
        go_ret
        exact ⟨ret_bool (by rw [HW.out, h2']; simp), rfl⟩
    · have h1' : 64 < (s.size : Int) := by omega
      go_enter Tryd.func47, Tryd.ntmps47
      go_wp2
      go_ret
      exact ⟨ret_bool (by rw [HW.out]; simp [h1]), rfl⟩

end Go.Proofs.YtlblbghlchedpaaDoor
