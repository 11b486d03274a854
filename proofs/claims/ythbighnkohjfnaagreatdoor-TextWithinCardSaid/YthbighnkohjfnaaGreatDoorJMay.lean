import Derived.Deep.QuietTactic
import Derived.BigQuiet
import Derived.Lib.Hide
import Derived.Test.YthbighnkohjfnaaGreatDoorJSayEach
/-
  CONTRACTS: is a text a word (the program's, the document's)?
-/
namespace Go.Proofs.YthbighnkohjfnaaGreatDoor
open Go.RowKit

theorem word_empty {s : ByteArray} (h : s.size = 0) : wordB s = false := by
  have : s.data.toList = [] := by rw [← List.length_eq_zero_iff]; simpa using h
  unfold wordB; rw [this]; rfl
theorem word_cons {s : ByteArray} (h : 0 < s.size) : wordB s = (decide (s.size ≤ 64) && lowI s[0].toNat && (s.data.toList.drop 1).all (fun x => inwI x.toNat)) := by
  have h0 := drop_at s 0 h
  simp only [List.drop_zero, Nat.zero_add] at h0
  have hl : s.data.toList.length = s.size := Array.length_toList
  unfold wordB
  rw [h0] at hl ⊢
  have : decide ((List.drop 1 s.data.toList).length < 64) = decide (s.size ≤ 64) := by
    rw [List.length_cons] at hl
    rw [decide_eq_decide]; omega
  show (decide ((List.drop 1 s.data.toList).length < 64) && _ && _) = _
  rw [this]; rfl

theorem emp_no {s : ByteArray} (h : 0 < s.size) : s.toList.isEmpty = false := by
  rw [ByteArray.toList_eq, List.isEmpty_eq_false_iff]
  intro e
  have : s.data.toList.length = s.size := Array.length_toList
  rw [e] at this; simp at this; omega
theorem emp_ne {s : ByteArray} (h : 0 < s.size) : ¬ s.toList = [] := by
  have := emp_no h
  rwa [List.isEmpty_eq_false_iff] at this
theorem emp_yes {s : ByteArray} (h : s.size = 0) : s.toList = [] := by
  rw [ByteArray.toList_eq, ← List.length_eq_zero_iff]
  exact h

def allW (s : ByteArray) (k : Nat) : Bool := (s.data.toList.drop k).all (fun x => inwI x.toNat)
theorem allW_step {s : ByteArray} {k : Nat} (h : k < s.size) : allW s k = (inwI s[k].toNat && allW s (k + 1)) := by
  unfold allW; rw [drop_at s k h]; rfl
theorem allW_end {s : ByteArray} {k : Nat} (h : s.size ≤ k) : allW s k = true := by
  unfold allW; rw [drop_end s k h]; rfl

set_option maxHeartbeats 400000 in
theorem isWord_any (s : ByteArray) (w : World) (hs : s.size ≤ maxLen) :
    Calls Tryz.prog 79 #[.string s] w fun e w' => e = .returned (.bool (wordB s)) ∧ w = w' := by
  unfold maxLen at hs
  by_cases h0 : s.size = 0
  · have he := emp_yes h0
    have HW : Hid (wordB s = false) := word_empty h0
    go_enter Tryz.func79, Tryz.ntmps79
    go_wp2
    go_ret
    exact ⟨ret_bool HW.out.symm, rfl⟩
  · have hp : 0 < s.size := by omega
    have he := emp_no hp
    have hn := emp_ne hp
    have HW : Hid (wordB s = (decide (s.size ≤ 64) && lowI s[0].toNat && allW s 1)) := word_cons hp
    clear h0
    by_cases h1 : s.size ≤ 64
    · have h1' : (s.size : Int) ≤ 64 := by omega
      by_cases h2 : lowI (s[0].toNat : Int) = true
      · go_enter Tryz.func79, Tryz.ntmps79
        go_wp2_with (go_at_call 98; refine (isLetter_any _ _).mono ?_; rintro e w' ⟨rfl, rfl⟩)
        go_loop [3] (fun i => ∃ k : Nat, 1 ≤ k ∧ k ≤ s.size ∧ i = .int .i64 k ∧ Hid (allW s k = allW s 1)) (fun i => s.size - (intOf i).toNat)
        case atStart => exact ⟨1, by omega, by omega, rfl, rfl⟩
        case round =>
          obtain ⟨k, hk1, hk, rfl, HK⟩ := hrel
          by_cases hlt : k < s.size
          · have HS : Hid (allW s k = (inwI s[k].toNat && allW s (k + 1))) := allW_step hlt
            by_cases hc : inwI (s[k].toNat : Int) = true
            · go_wp2_with (go_at_call 99; refine (inWord_any _ _).mono ?_; rintro e w' ⟨rfl, rfl⟩)
              go_round
              case rel => exact ⟨k + 1, by omega, by omega, by go_num, by rw [← HK.out, HS.out, hc]; rfl⟩
              case measure => simp [intOf]; omega
            · have hc' : inwI (s[k].toNat : Int) = false := by simpa using hc
              go_wp2_with (go_at_call 99; refine (inWord_any _ _).mono ?_; rintro e w' ⟨rfl, rfl⟩)
              go_ret
              exact ⟨ret_bool (by rw [HW.out, ← HK.out, HS.out, hc']; simp), rfl⟩
          · have HE : Hid (allW s k = true) := allW_end (by omega)
            go_wp2
            go_ret
            exact ⟨ret_bool (by rw [HW.out, ← HK.out, HE.out, h2]; simp [h1]), rfl⟩
      · have h2' : lowI (s[0].toNat : Int) = false := by simpa using h2
        go_enter Tryz.func79, Tryz.ntmps79
        go_wp2_with (go_at_call 98; refine (isLetter_any _ _).mono ?_; rintro e w' ⟨rfl, rfl⟩)
        go_ret
        exact ⟨ret_bool (by rw [HW.out, h2']; simp), rfl⟩
    · have h1' : 64 < (s.size : Int) := by omega
      go_enter Tryz.func79, Tryz.ntmps79
      go_wp2
      go_ret
      exact ⟨ret_bool (by rw [HW.out]; simp [h1]), rfl⟩

theorem inwI_of_low {c : Int} (h : lowI c = true) : inwI c = true := by simp [inwI, h]
theorem inwI_of_dig {c : Int} (h : digI c = true) : inwI c = true := by simp [inwI, h]
theorem inwI_46 {c : Int} (h : c = 46) : inwI c = true := by simp [inwI, h]
theorem inwI_95 {c : Int} (h : c = 95) : inwI c = true := by simp [inwI, h]
theorem inwI_45 {c : Int} (h : c = 45) : inwI c = true := by simp [inwI, h]
theorem way_last {c : Int} (h1 : ¬ c = 46) (h2 : ¬ c = 95) (h3 : ¬ c = 45) (h : (((c != 46) = false ∨ (c != 95) = false) ∨ (c != 45) = false) ∨ (c != 47) = false) : inwI c = true := by
  simp at h
  have : c = 47 := by omega
  simp [inwI, this]
theorem way_no {c : Int} (h1 : ¬ lowI c = true) (h2 : ¬ digI c = true) (h : (((c != 46) = true ∧ (c != 95) = true) ∧ (c != 45) = true) ∧ (c != 47) = true) : inwI c = false := by
  simp at h
  simp [inwI, h1, h2, h]

set_option maxHeartbeats 400000 in
theorem refWord_any (s : ByteArray) (w : World) (hs : s.size ≤ maxLen) :
    Calls Tryz.prog 97 #[.string s] w fun e w' => e = .returned (.bool (wordB s)) ∧ w = w' := by
  unfold maxLen at hs
  by_cases h0 : s.size = 0
  · have he : (s.size : Int) < 1 := by omega
    have HW : Hid (wordB s = false) := word_empty h0
    clear h0
    go_enter Tryz.func97, Tryz.ntmps97
    go_wp2
    go_ret
    exact ⟨ret_bool HW.out.symm, rfl⟩
  · have hp : 0 < s.size := by omega
    have hp1 : 1 ≤ (s.size : Int) := by omega
    have HW : Hid (wordB s = (decide (s.size ≤ 64) && lowI s[0].toNat && allW s 1)) := word_cons hp
    have HA : Hid (allW s 0 = (inwI s[0].toNat && allW s 1)) := allW_step hp
    clear h0
    by_cases h1 : s.size ≤ 64
    · have h1' : (s.size : Int) ≤ 64 := by omega
      by_cases h2 : lowI (s[0].toNat : Int) = true
      · have HI : Hid (inwI (s[0].toNat : Int) = true) := inwI_of_low h2
        go_enter Tryz.func97, Tryz.ntmps97
        go_wp2_with (go_at_call 108; refine (lower_any _ _).mono ?_; rintro e w' ⟨rfl, rfl⟩)
        go_loop [3] (fun i => ∃ k : Nat, k ≤ s.size ∧ i = .int .i64 k ∧ Hid (allW s k = allW s 0)) (fun i => s.size - (intOf i).toNat)
        case atStart => exact ⟨0, by omega, rfl, rfl⟩
        case round =>
          obtain ⟨k, hk, rfl, HK⟩ := hrel
          by_cases hlt : k < s.size
          · have HS : Hid (allW s k = (inwI s[k].toNat && allW s (k + 1))) := allW_step hlt
            go_wp2_with (first | (go_at_call 108; refine (lower_any _ _).mono ?_; rintro e w' ⟨rfl, rfl⟩) | (go_at_call 93; refine (digit_any _ _).mono ?_; rintro e w' ⟨rfl, rfl⟩))
            all_goals first
              | (go_round
                 case rel => exact ⟨k + 1, by omega, by go_num, by rw [← HK.out, HS.out, show inwI (s[k].toNat : Int) = true from (by first | exact inwI_of_low ‹_› | exact inwI_of_dig ‹_› | exact inwI_46 ‹_› | exact inwI_95 ‹_› | exact inwI_45 ‹_› | exact way_last ‹_› ‹_› ‹_› ‹_›)]; rfl⟩
                 case measure => simp [intOf]; omega)
              | (go_ret
                 exact ⟨ret_bool (by rw [HW.out, h2]; have h9 := HA.out; rw [← HK.out, HS.out, HI.out, way_no (c := (s[k].toNat : Int)) ‹_› ‹_› ‹_›, Bool.false_and, Bool.true_and] at h9; rw [← h9, Bool.and_false]), rfl⟩)
          · have HE : Hid (allW s k = true) := allW_end (by omega)
            go_wp2
            go_ret
            exact ⟨ret_bool (by rw [HW.out, h2]; have := HA.out; rw [← HK.out, HE.out, HI.out] at this; simp [h1, ← this]), rfl⟩
      · have h2' : lowI (s[0].toNat : Int) = false := by simpa using h2
        go_enter Tryz.func97, Tryz.ntmps97
        go_wp2_with (go_at_call 108; refine (lower_any _ _).mono ?_; rintro e w' ⟨rfl, rfl⟩)
        go_ret
        exact ⟨ret_bool (by rw [HW.out, h2']; simp), rfl⟩
    · have h1' : 64 < (s.size : Int) := by omega
      go_enter Tryz.func97, Tryz.ntmps97
      go_wp2
      go_ret
      exact ⟨ret_bool (by rw [HW.out]; simp [h1]), rfl⟩

end Go.Proofs.YthbighnkohjfnaaGreatDoor

/-
  CONTRACTS: may a value be (the program's, the document's)?
-/
namespace Go.Proofs.YthbighnkohjfnaaGreatDoor
open Go.RowKit

theorem emp_eq (s : ByteArray) : s.toList.isEmpty = decide (s.size = 0) := by
  by_cases h : s.size = 0
  · rw [emp_yes h]; simp [h]
  · rw [emp_no (by omega)]; simp [h]

theorem size_of_emp {s : ByteArray} (h : s.toList = []) : s.size = 0 := by
  have := emp_eq s
  rw [h] at this
  simpa using this
theorem size_of_ne {s : ByteArray} (h : ¬ s.toList = []) : ¬ s.size = 0 := fun e => h (emp_yes e)

set_option maxHeartbeats 400000 in
theorem mayBe_1 (n : Int) (s : ByteArray) (w : World) (_hs : s.size ≤ maxLen) :
    Calls Tryz.prog 63 #[.agg #[.int .i64 1, .int .i64 n, .string s]] w fun e w' => e = .returned (.bool (mayB 1 n s)) ∧ Below w.heap.size w w' := by
  go_enter Tryz.func63, Tryz.ntmps63
  go_wp2
  go_ret
  exact ⟨ret_bool (by simp [mayB, emp_eq]), (Below.refl _ _).alloc (Nat.le_refl _) _⟩

set_option maxHeartbeats 400000 in
theorem mayBe_6 (n : Int) (s : ByteArray) (w : World) (_hs : s.size ≤ maxLen) :
    Calls Tryz.prog 63 #[.agg #[.int .i64 6, .int .i64 n, .string s]] w fun e w' => e = .returned (.bool (mayB 6 n s)) ∧ Below w.heap.size w w' := by
  go_enter Tryz.func63, Tryz.ntmps63
  go_wp2
  go_ret
  exact ⟨ret_bool (by simp [mayB, emp_eq]), (Below.refl _ _).alloc (Nat.le_refl _) _⟩

theorem word_size {s : ByteArray} (h : wordB s = true) : s.size ≤ 64 := by
  by_cases h0 : 0 < s.size
  · rw [word_cons h0] at h; simp at h; exact h.1.1
  · omega

theorem m7 {n : Int} {s : ByteArray} (h0 : (!wordB s) = false) (hn : n = 0) : decide ((s.size : Int) ≤ 1000) = mayB 7 n s := by
  have h : wordB s = true := by simpa using h0
  have := word_size h
  have h9 : decide ((s.size : Int) ≤ 1000) = true := decide_eq_true (by omega)
  rw [h9]; simp [mayB, h, hn]
theorem m7n {n : Int} {s : ByteArray} (hn : ¬ n = 0) : false = mayB 7 n s := by simp [mayB, hn]
theorem m7w {n : Int} {s : ByteArray} (h : (!wordB s) = true) : false = mayB 7 n s := by
  simp at h; simp [mayB, h]

set_option maxHeartbeats 400000 in
theorem mayBe_7 (n : Int) (s : ByteArray) (w : World) (hs : s.size ≤ maxLen) :
    Calls Tryz.prog 63 #[.agg #[.int .i64 7, .int .i64 n, .string s]] w fun e w' => e = .returned (.bool (mayB 7 n s)) ∧ Below w.heap.size w w' := by
  go_enter Tryz.func63, Tryz.ntmps63
  go_wp2_with (go_at_call 79; refine (isWord_any _ _ (by assumption)).mono ?_; rintro e w' ⟨rfl, rfl⟩)
  all_goals go_ret
  all_goals refine ⟨ret_bool ?_, (Below.refl _ _).alloc (Nat.le_refl _) _⟩
  · exact m7w ‹_›
  · exact m7 ‹_› ‹_›
  · exact m7n ‹_›

theorem m2a {n : Int} {s : ByteArray} (h : 1 < n) : false = mayB 2 n s := by simp [mayB]; omega
theorem m2b {n : Int} {s : ByteArray} (h : n < 0) : false = mayB 2 n s := by simp [mayB]; omega
theorem m2c {n : Int} {s : ByteArray} (h : n ≤ 1) (h' : 0 ≤ n) : s.toList.isEmpty = mayB 2 n s := by
  have : n = 0 ∨ n = 1 := by omega
  simp [mayB, emp_eq, this]

set_option maxHeartbeats 400000 in
theorem mayBe_2 (n : Int) (s : ByteArray) (w : World) (_hs : s.size ≤ maxLen) :
    Calls Tryz.prog 63 #[.agg #[.int .i64 2, .int .i64 n, .string s]] w fun e w' => e = .returned (.bool (mayB 2 n s)) ∧ Below w.heap.size w w' := by
  go_enter Tryz.func63, Tryz.ntmps63
  go_wp2
  all_goals go_ret
  all_goals refine ⟨ret_bool ?_, (Below.refl _ _).alloc (Nat.le_refl _) _⟩
  · exact m2a ‹_›
  · exact m2c ‹_› ‹_›
  · exact m2b ‹_›

set_option maxHeartbeats 400000 in
theorem mayBe_5 (n : Int) (s : ByteArray) (w : World) (_hs : s.size ≤ maxLen) :
    Calls Tryz.prog 63 #[.agg #[.int .i64 5, .int .i64 n, .string s]] w fun e w' => e = .returned (.bool (mayB 5 n s)) ∧ Below w.heap.size w w' := by
  by_cases h1 : 0 ≤ n
  · by_cases h2 : n < 9007199254740992
    · go_enter Tryz.func63, Tryz.ntmps63
      go_wp2
      go_ret
      exact ⟨ret_bool (by simp [mayB, emp_eq, h1, h2]), (Below.refl _ _).alloc (Nat.le_refl _) _⟩
    · go_enter Tryz.func63, Tryz.ntmps63
      go_wp2
      go_ret
      exact ⟨ret_bool (by simp [mayB, h2]), (Below.refl _ _).alloc (Nat.le_refl _) _⟩
  · go_enter Tryz.func63, Tryz.ntmps63
    go_wp2
    go_ret
    exact ⟨ret_bool (by simp [mayB]; omega), (Below.refl _ _).alloc (Nat.le_refl _) _⟩

theorem m3 {n : Int} {s : ByteArray} (h : n = 0) : decide ((s.size : Int) ≤ 1000) = mayB 3 n s := by
  have e : decide ((s.size : Int) ≤ 1000) = decide (s.size ≤ 1000) := by rw [decide_eq_decide]; omega
  simp [mayB, h, e]
theorem m3n {n : Int} {s : ByteArray} (h : ¬ n = 0) : false = mayB 3 n s := by simp [mayB, h]
theorem m4 {n : Int} {s : ByteArray} (h : n = 0) : decide ((s.size : Int) ≤ 1000) = mayB 4 n s := m3 h
theorem m4n {n : Int} {s : ByteArray} (h : ¬ n = 0) : false = mayB 4 n s := m3n h

set_option maxHeartbeats 400000 in
theorem mayBe_3 (n : Int) (s : ByteArray) (w : World) (_hs : s.size ≤ maxLen) :
    Calls Tryz.prog 63 #[.agg #[.int .i64 3, .int .i64 n, .string s]] w fun e w' => e = .returned (.bool (mayB 3 n s)) ∧ Below w.heap.size w w' := by
  go_enter Tryz.func63, Tryz.ntmps63
  go_wp2
  all_goals go_ret
  all_goals refine ⟨ret_bool ?_, (Below.refl _ _).alloc (Nat.le_refl _) _⟩
  · exact m3 ‹_›
  · exact m3n ‹_›
set_option maxHeartbeats 400000 in
theorem mayBe_4 (n : Int) (s : ByteArray) (w : World) (_hs : s.size ≤ maxLen) :
    Calls Tryz.prog 63 #[.agg #[.int .i64 4, .int .i64 n, .string s]] w fun e w' => e = .returned (.bool (mayB 4 n s)) ∧ Below w.heap.size w w' := by
  go_enter Tryz.func63, Tryz.ntmps63
  go_wp2
  all_goals go_ret
  all_goals refine ⟨ret_bool ?_, (Below.refl _ _).alloc (Nat.le_refl _) _⟩
  · exact m4 ‹_›
  · exact m4n ‹_›

set_option maxHeartbeats 400000 in
theorem mayBe_x (k n : Int) (s : ByteArray) (w : World) (_hs : s.size ≤ maxLen) (h1 : ¬ k = 1) (h2 : ¬ k = 2) (h3 : ¬ k = 3) (h4 : ¬ k = 4) (h5 : ¬ k = 5) (h6 : ¬ k = 6) (h7 : ¬ k = 7) :
    Calls Tryz.prog 63 #[.agg #[.int .i64 k, .int .i64 n, .string s]] w fun e w' => e = .returned (.bool (mayB k n s)) ∧ Below w.heap.size w w' := by
  go_enter Tryz.func63, Tryz.ntmps63
  go_wp2
  all_goals go_ret
  all_goals refine ⟨ret_bool ?_, (Below.refl _ _).alloc (Nat.le_refl _) _⟩
  all_goals simp [mayB, h1, h2, h3, h4, h5, h6, h7]

theorem mayBe_any (k n : Int) (s : ByteArray) (w : World) (hs : s.size ≤ maxLen) :
    Calls Tryz.prog 63 #[.agg #[.int .i64 k, .int .i64 n, .string s]] w fun e w' => e = .returned (.bool (mayB k n s)) ∧ Below w.heap.size w w' := by
  by_cases h1 : k = 1; · subst h1; exact mayBe_1 n s w hs
  by_cases h2 : k = 2; · subst h2; exact mayBe_2 n s w hs
  by_cases h3 : k = 3; · subst h3; exact mayBe_3 n s w hs
  by_cases h4 : k = 4; · subst h4; exact mayBe_4 n s w hs
  by_cases h5 : k = 5; · subst h5; exact mayBe_5 n s w hs
  by_cases h6 : k = 6; · subst h6; exact mayBe_6 n s w hs
  by_cases h7 : k = 7; · subst h7; exact mayBe_7 n s w hs
  exact mayBe_x k n s w hs h1 h2 h3 h4 h5 h6 h7

set_option maxHeartbeats 400000 in
theorem refMay_1 (n : Int) (s : ByteArray) (w : World) (_hs : s.size ≤ maxLen) :
    Calls Tryz.prog 75 #[.agg #[.int .i64 1, .int .i64 n, .string s]] w fun e w' => e = .returned (.bool (mayB 1 n s)) ∧ Below w.heap.size w w' := by
  go_enter Tryz.func75, Tryz.ntmps75
  go_wp2
  go_ret
  exact ⟨ret_bool (by simp [mayB, emp_eq]), (Below.refl _ _).alloc (Nat.le_refl _) _⟩
set_option maxHeartbeats 400000 in
theorem refMay_6 (n : Int) (s : ByteArray) (w : World) (_hs : s.size ≤ maxLen) :
    Calls Tryz.prog 75 #[.agg #[.int .i64 6, .int .i64 n, .string s]] w fun e w' => e = .returned (.bool (mayB 6 n s)) ∧ Below w.heap.size w w' := by
  go_enter Tryz.func75, Tryz.ntmps75
  go_wp2
  go_ret
  exact ⟨ret_bool (by simp [mayB, emp_eq]), (Below.refl _ _).alloc (Nat.le_refl _) _⟩
set_option maxHeartbeats 400000 in
theorem refMay_3 (n : Int) (s : ByteArray) (w : World) (_hs : s.size ≤ maxLen) :
    Calls Tryz.prog 75 #[.agg #[.int .i64 3, .int .i64 n, .string s]] w fun e w' => e = .returned (.bool (mayB 3 n s)) ∧ Below w.heap.size w w' := by
  go_enter Tryz.func75, Tryz.ntmps75
  go_wp2
  all_goals go_ret
  all_goals refine ⟨ret_bool ?_, (Below.refl _ _).alloc (Nat.le_refl _) _⟩
  · exact m3 ‹_›
  · exact m3n ‹_›
set_option maxHeartbeats 400000 in
theorem refMay_4 (n : Int) (s : ByteArray) (w : World) (_hs : s.size ≤ maxLen) :
    Calls Tryz.prog 75 #[.agg #[.int .i64 4, .int .i64 n, .string s]] w fun e w' => e = .returned (.bool (mayB 4 n s)) ∧ Below w.heap.size w w' := by
  go_enter Tryz.func75, Tryz.ntmps75
  go_wp2
  all_goals go_ret
  all_goals refine ⟨ret_bool ?_, (Below.refl _ _).alloc (Nat.le_refl _) _⟩
  · exact m4 ‹_›
  · exact m4n ‹_›
set_option maxHeartbeats 400000 in
theorem refMay_2 (n : Int) (s : ByteArray) (w : World) (_hs : s.size ≤ maxLen) :
    Calls Tryz.prog 75 #[.agg #[.int .i64 2, .int .i64 n, .string s]] w fun e w' => e = .returned (.bool (mayB 2 n s)) ∧ Below w.heap.size w w' := by
  go_enter Tryz.func75, Tryz.ntmps75
  go_wp2
  all_goals go_ret
  all_goals refine ⟨ret_bool ?_, (Below.refl _ _).alloc (Nat.le_refl _) _⟩
  · have hz := size_of_emp ‹s.toList = []›
    have hn : n = 0 := ‹n = 0›
    simp [mayB, hz, hn]
  · have hz := size_of_emp ‹s.toList = []›
    have hn : ¬ n = 0 := ‹¬ n = 0›
    simp [mayB, hz, hn, Bool.beq_eq_decide_eq]
  · have hz := size_of_ne ‹¬ s.toList = []›
    simp [mayB, hz]
set_option maxHeartbeats 400000 in
theorem refMay_5 (n : Int) (s : ByteArray) (w : World) (_hs : s.size ≤ maxLen) :
    Calls Tryz.prog 75 #[.agg #[.int .i64 5, .int .i64 n, .string s]] w fun e w' => e = .returned (.bool (mayB 5 n s)) ∧ Below w.heap.size w w' := by
  go_enter Tryz.func75, Tryz.ntmps75
  go_wp2
  all_goals go_ret
  all_goals refine ⟨ret_bool ?_, (Below.refl _ _).alloc (Nat.le_refl _) _⟩
  · have hz := size_of_emp ‹s.toList = []›
    have hn : 0 ≤ n := ‹0 ≤ n›
    simp [mayB, hz, hn]
  · have hz := size_of_emp ‹s.toList = []›
    have hn : ¬ 0 ≤ n := by have : n < 0 := ‹n < 0›; omega
    simp [mayB, hz, hn]
  · have hz := size_of_ne ‹¬ s.toList = []›
    simp [mayB, hz]
set_option maxHeartbeats 400000 in
theorem refMay_7 (n : Int) (s : ByteArray) (w : World) (hs : s.size ≤ maxLen) :
    Calls Tryz.prog 75 #[.agg #[.int .i64 7, .int .i64 n, .string s]] w fun e w' => e = .returned (.bool (mayB 7 n s)) ∧ Below w.heap.size w w' := by
  go_enter Tryz.func75, Tryz.ntmps75
  go_wp2_with (go_at_call 97; refine (refWord_any _ _ (by assumption)).mono ?_; rintro e w' ⟨rfl, rfl⟩)
  all_goals go_ret
  all_goals refine ⟨ret_bool ?_, (Below.refl _ _).alloc (Nat.le_refl _) _⟩
  · have hn : n = 0 := ‹n = 0›
    simp [mayB, hn]
  · exact m7n ‹_›
set_option maxHeartbeats 400000 in
theorem refMay_x (k n : Int) (s : ByteArray) (w : World) (_hs : s.size ≤ maxLen) (h1 : ¬ k = 1) (h2 : ¬ k = 2) (h3 : ¬ k = 3) (h4 : ¬ k = 4) (h5 : ¬ k = 5) (h6 : ¬ k = 6) (h7 : ¬ k = 7) :
    Calls Tryz.prog 75 #[.agg #[.int .i64 k, .int .i64 n, .string s]] w fun e w' => e = .returned (.bool (mayB k n s)) ∧ Below w.heap.size w w' := by
  go_enter Tryz.func75, Tryz.ntmps75
  go_wp2
  all_goals go_ret
  all_goals refine ⟨ret_bool ?_, (Below.refl _ _).alloc (Nat.le_refl _) _⟩
  all_goals simp [mayB, h1, h2, h3, h4, h5, h6, h7]

theorem refMay_any (k n : Int) (s : ByteArray) (w : World) (hs : s.size ≤ maxLen) :
    Calls Tryz.prog 75 #[.agg #[.int .i64 k, .int .i64 n, .string s]] w fun e w' => e = .returned (.bool (mayB k n s)) ∧ Below w.heap.size w w' := by
  by_cases h1 : k = 1; · subst h1; exact refMay_1 n s w hs
  by_cases h2 : k = 2; · subst h2; exact refMay_2 n s w hs
  by_cases h3 : k = 3; · subst h3; exact refMay_3 n s w hs
  by_cases h4 : k = 4; · subst h4; exact refMay_4 n s w hs
  by_cases h5 : k = 5; · subst h5; exact refMay_5 n s w hs
  by_cases h6 : k = 6; · subst h6; exact refMay_6 n s w hs
  by_cases h7 : k = 7; · subst h7; exact refMay_7 n s w hs
  exact refMay_x k n s w hs h1 h2 h3 h4 h5 h6 h7

end Go.Proofs.YthbighnkohjfnaaGreatDoor
