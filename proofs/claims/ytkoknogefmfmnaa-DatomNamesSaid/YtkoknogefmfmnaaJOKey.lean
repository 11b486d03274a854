import Derived.Deep.QuietTactic
import Derived.BigQuiet
import Derived.Lib.Hide
import Derived.Test.YtkoknogefmfmnaaJLeaf
import Derived.Maps.AppendAt
import Derived.Test.YtkoknogefmfmnaaJOWords
import Derived.Deep.CutBlock
/-
  CONTRACTS: is a text a word (the program's, the document's)?
-/
namespace Go.Proofs.Ytkoknogefmfmnaa
open Go.RowKit

theorem word_empty {s : ByteArray} (h : s.size = 0) : wordB s = false := by
  have : s.data.toList = [] := by rw [← List.length_eq_zero_iff]; simpa using h
  unfold wordB; rw [this]; rfl
theorem word_cons {s : ByteArray} (h : 0 < s.size) : wordB s = (decide (s.size ≤ 64) && lowI s[0].toNat && (s.data.toList.drop 1).all (fun x => inwI x.toNat)) := by
  have h0 := drop_at s 0 h
  simp only [List.drop_zero, Nat.zero_add] at h0
  have hl : s.data.toList.length = s.size := Array.length_toList
  unfold wordB
  rw [h0] at hl ⊢
  have : decide ((List.drop 1 s.data.toList).length < 64) = decide (s.size ≤ 64) := by
    rw [List.length_cons] at hl
    rw [decide_eq_decide]; omega
  show (decide ((List.drop 1 s.data.toList).length < 64) && _ && _) = _
  rw [this]; rfl

theorem emp_no {s : ByteArray} (h : 0 < s.size) : s.toList.isEmpty = false := by
  rw [ByteArray.toList_eq, List.isEmpty_eq_false_iff]
  intro e
  have : s.data.toList.length = s.size := Array.length_toList
  rw [e] at this; simp at this; omega
theorem emp_ne {s : ByteArray} (h : 0 < s.size) : ¬ s.toList = [] := by
  have := emp_no h
  rwa [List.isEmpty_eq_false_iff] at this
theorem emp_yes {s : ByteArray} (h : s.size = 0) : s.toList = [] := by
  rw [ByteArray.toList_eq, ← List.length_eq_zero_iff]
  exact h

def allW (s : ByteArray) (k : Nat) : Bool := (s.data.toList.drop k).all (fun x => inwI x.toNat)
theorem allW_step {s : ByteArray} {k : Nat} (h : k < s.size) : allW s k = (inwI s[k].toNat && allW s (k + 1)) := by
  unfold allW; rw [drop_at s k h]; rfl
theorem allW_end {s : ByteArray} {k : Nat} (h : s.size ≤ k) : allW s k = true := by
  unfold allW; rw [drop_end s k h]; rfl

set_option maxHeartbeats 400000 in
theorem isWord_any (s : ByteArray) (w : World) (hs : s.size ≤ maxLen) :
    Calls Try.prog 108 #[.string s] w fun e w' => e = .returned (.bool (wordB s)) ∧ w = w' := by
  unfold maxLen at hs
  by_cases h0 : s.size = 0
  · have he := emp_yes h0
    have HW : Hid (wordB s = false) := word_empty h0
    go_enter Try.func108, Try.ntmps108
    go_wp2
    go_ret
    exact ⟨ret_bool HW.out.symm, rfl⟩
  · have hp : 0 < s.size := by omega
    have he := emp_no hp
    have hn := emp_ne hp
    have HW : Hid (wordB s = (decide (s.size ≤ 64) && lowI s[0].toNat && allW s 1)) := word_cons hp
    clear h0
    by_cases h1 : s.size ≤ 64
    · have h1' : (s.size : Int) ≤ 64 := by omega
      by_cases h2 : lowI (s[0].toNat : Int) = true
      · go_enter Try.func108, Try.ntmps108
        go_wp2_with (go_at_call 115; refine (isLetter_any _ _).mono ?_; rintro e w' ⟨rfl, rfl⟩)
        go_loop [3] (fun i => ∃ k : Nat, 1 ≤ k ∧ k ≤ s.size ∧ i = .int .i64 k ∧ Hid (allW s k = allW s 1)) (fun i => s.size - (intOf i).toNat)
        case atStart => exact ⟨1, by omega, by omega, rfl, rfl⟩
        case round =>
          obtain ⟨k, hk1, hk, rfl, HK⟩ := hrel
          by_cases hlt : k < s.size
          · have HS : Hid (allW s k = (inwI s[k].toNat && allW s (k + 1))) := allW_step hlt
            by_cases hc : inwI (s[k].toNat : Int) = true
            · go_wp2_with (go_at_call 116; refine (inWord_any _ _).mono ?_; rintro e w' ⟨rfl, rfl⟩)
              go_round
              case rel => exact ⟨k + 1, by omega, by omega, by go_num, by rw [← HK.out, HS.out, hc]; rfl⟩
              case measure => simp [intOf]; omega
            · have hc' : inwI (s[k].toNat : Int) = false := by simpa using hc
              go_wp2_with (go_at_call 116; refine (inWord_any _ _).mono ?_; rintro e w' ⟨rfl, rfl⟩)
              go_ret
              exact ⟨ret_bool (by rw [HW.out, ← HK.out, HS.out, hc']; simp), rfl⟩
          · have HE : Hid (allW s k = true) := allW_end (by omega)
            go_wp2
            go_ret
            exact ⟨ret_bool (by rw [HW.out, ← HK.out, HE.out, h2]; simp [h1]), rfl⟩
      · have h2' : lowI (s[0].toNat : Int) = false := by simpa using h2
        go_enter Try.func108, Try.ntmps108
        go_wp2_with (go_at_call 115; refine (isLetter_any _ _).mono ?_; rintro e w' ⟨rfl, rfl⟩)
        go_ret
        exact ⟨ret_bool (by rw [HW.out, h2']; simp), rfl⟩
    · have h1' : 64 < (s.size : Int) := by omega
      go_enter Try.func108, Try.ntmps108
      go_wp2
      go_ret
      exact ⟨ret_bool (by rw [HW.out]; simp [h1]), rfl⟩

theorem inwI_of_low {c : Int} (h : lowI c = true) : inwI c = true := by simp [inwI, h]
theorem inwI_of_dig {c : Int} (h : digI c = true) : inwI c = true := by simp [inwI, h]
theorem inwI_46 {c : Int} (h : c = 46) : inwI c = true := by simp [inwI, h]
theorem inwI_95 {c : Int} (h : c = 95) : inwI c = true := by simp [inwI, h]
theorem inwI_45 {c : Int} (h : c = 45) : inwI c = true := by simp [inwI, h]
theorem way_last {c : Int} (h1 : ¬ c = 46) (h2 : ¬ c = 95) (h3 : ¬ c = 45) (h : (((c != 46) = false ∨ (c != 95) = false) ∨ (c != 45) = false) ∨ (c != 47) = false) : inwI c = true := by
  simp at h
  have : c = 47 := by omega
  simp [inwI, this]
theorem way_no {c : Int} (h1 : ¬ lowI c = true) (h2 : ¬ digI c = true) (h : (((c != 46) = true ∧ (c != 95) = true) ∧ (c != 45) = true) ∧ (c != 47) = true) : inwI c = false := by
  simp at h
  simp [inwI, h1, h2, h]

end Go.Proofs.Ytkoknogefmfmnaa

/-
  CONTRACTS: may a value be (the program's, the document's)?
-/
namespace Go.Proofs.Ytkoknogefmfmnaa
open Go.RowKit

theorem emp_eq (s : ByteArray) : s.toList.isEmpty = decide (s.size = 0) := by
  by_cases h : s.size = 0
  · rw [emp_yes h]; simp [h]
  · rw [emp_no (by omega)]; simp [h]

theorem size_of_emp {s : ByteArray} (h : s.toList = []) : s.size = 0 := by
  have := emp_eq s
  rw [h] at this
  simpa using this
theorem size_of_ne {s : ByteArray} (h : ¬ s.toList = []) : ¬ s.size = 0 := fun e => h (emp_yes e)

set_option maxHeartbeats 400000 in
theorem mayBe_1 (n : Int) (s : ByteArray) (w : World) (_hs : s.size ≤ maxLen) :
    Calls Try.prog 93 #[.agg #[.int .i64 1, .int .i64 n, .string s]] w fun e w' => e = .returned (.bool (mayB 1 n s)) ∧ Below w.heap.size w w' := by
  go_enter Try.func93, Try.ntmps93
  go_wp2
  go_ret
  exact ⟨ret_bool (by simp [mayB, emp_eq]), (Below.refl _ _).alloc (Nat.le_refl _) _⟩

set_option maxHeartbeats 400000 in
theorem mayBe_6 (n : Int) (s : ByteArray) (w : World) (_hs : s.size ≤ maxLen) :
    Calls Try.prog 93 #[.agg #[.int .i64 6, .int .i64 n, .string s]] w fun e w' => e = .returned (.bool (mayB 6 n s)) ∧ Below w.heap.size w w' := by
  go_enter Try.func93, Try.ntmps93
  go_wp2
  go_ret
  exact ⟨ret_bool (by simp [mayB, emp_eq]), (Below.refl _ _).alloc (Nat.le_refl _) _⟩

theorem word_size {s : ByteArray} (h : wordB s = true) : s.size ≤ 64 := by
  by_cases h0 : 0 < s.size
  · rw [word_cons h0] at h; simp at h; exact h.1.1
  · omega

theorem m7 {n : Int} {s : ByteArray} (h0 : (!wordB s) = false) (hn : n = 0) : decide ((s.size : Int) ≤ 1000) = mayB 7 n s := by
  have h : wordB s = true := by simpa using h0
  have := word_size h
  have h9 : decide ((s.size : Int) ≤ 1000) = true := decide_eq_true (by omega)
  rw [h9]; simp [mayB, h, hn]
theorem m7n {n : Int} {s : ByteArray} (hn : ¬ n = 0) : false = mayB 7 n s := by simp [mayB, hn]
theorem m7w {n : Int} {s : ByteArray} (h : (!wordB s) = true) : false = mayB 7 n s := by
  simp at h; simp [mayB, h]

set_option maxHeartbeats 400000 in
theorem mayBe_7 (n : Int) (s : ByteArray) (w : World) (hs : s.size ≤ maxLen) :
    Calls Try.prog 93 #[.agg #[.int .i64 7, .int .i64 n, .string s]] w fun e w' => e = .returned (.bool (mayB 7 n s)) ∧ Below w.heap.size w w' := by
  go_enter Try.func93, Try.ntmps93
  go_wp2_with (go_at_call 108; refine (isWord_any _ _ (by assumption)).mono ?_; rintro e w' ⟨rfl, rfl⟩)
  all_goals go_ret
  all_goals refine ⟨ret_bool ?_, (Below.refl _ _).alloc (Nat.le_refl _) _⟩
  · exact m7w ‹_›
  · exact m7 ‹_› ‹_›
  · exact m7n ‹_›

theorem m2a {n : Int} {s : ByteArray} (h : 1 < n) : false = mayB 2 n s := by simp [mayB]; omega
theorem m2b {n : Int} {s : ByteArray} (h : n < 0) : false = mayB 2 n s := by simp [mayB]; omega
theorem m2c {n : Int} {s : ByteArray} (h : n ≤ 1) (h' : 0 ≤ n) : s.toList.isEmpty = mayB 2 n s := by
  have : n = 0 ∨ n = 1 := by omega
  simp [mayB, emp_eq, this]

set_option maxHeartbeats 400000 in
theorem mayBe_2 (n : Int) (s : ByteArray) (w : World) (_hs : s.size ≤ maxLen) :
    Calls Try.prog 93 #[.agg #[.int .i64 2, .int .i64 n, .string s]] w fun e w' => e = .returned (.bool (mayB 2 n s)) ∧ Below w.heap.size w w' := by
  go_enter Try.func93, Try.ntmps93
  go_wp2
  all_goals go_ret
  all_goals refine ⟨ret_bool ?_, (Below.refl _ _).alloc (Nat.le_refl _) _⟩
  · exact m2a ‹_›
  · exact m2c ‹_› ‹_›
  · exact m2b ‹_›

set_option maxHeartbeats 400000 in
theorem mayBe_5 (n : Int) (s : ByteArray) (w : World) (_hs : s.size ≤ maxLen) :
    Calls Try.prog 93 #[.agg #[.int .i64 5, .int .i64 n, .string s]] w fun e w' => e = .returned (.bool (mayB 5 n s)) ∧ Below w.heap.size w w' := by
  by_cases h1 : 0 ≤ n
  · by_cases h2 : n < 9007199254740992
    · go_enter Try.func93, Try.ntmps93
      go_wp2
      go_ret
      exact ⟨ret_bool (by simp [mayB, emp_eq, h1, h2]), (Below.refl _ _).alloc (Nat.le_refl _) _⟩
    · go_enter Try.func93, Try.ntmps93
      go_wp2
      go_ret
      exact ⟨ret_bool (by simp [mayB, h2]), (Below.refl _ _).alloc (Nat.le_refl _) _⟩
  · go_enter Try.func93, Try.ntmps93
    go_wp2
    go_ret
    exact ⟨ret_bool (by simp [mayB]; omega), (Below.refl _ _).alloc (Nat.le_refl _) _⟩

theorem m3 {n : Int} {s : ByteArray} (h : n = 0) : decide ((s.size : Int) ≤ 1000) = mayB 3 n s := by
  have e : decide ((s.size : Int) ≤ 1000) = decide (s.size ≤ 1000) := by rw [decide_eq_decide]; omega
  simp [mayB, h, e]
theorem m3n {n : Int} {s : ByteArray} (h : ¬ n = 0) : false = mayB 3 n s := by simp [mayB, h]
theorem m4 {n : Int} {s : ByteArray} (h : n = 0) : decide ((s.size : Int) ≤ 1000) = mayB 4 n s := m3 h
theorem m4n {n : Int} {s : ByteArray} (h : ¬ n = 0) : false = mayB 4 n s := m3n h

set_option maxHeartbeats 400000 in
theorem mayBe_3 (n : Int) (s : ByteArray) (w : World) (_hs : s.size ≤ maxLen) :
    Calls Try.prog 93 #[.agg #[.int .i64 3, .int .i64 n, .string s]] w fun e w' => e = .returned (.bool (mayB 3 n s)) ∧ Below w.heap.size w w' := by
  go_enter Try.func93, Try.ntmps93
  go_wp2
  all_goals go_ret
  all_goals refine ⟨ret_bool ?_, (Below.refl _ _).alloc (Nat.le_refl _) _⟩
  · exact m3 ‹_›
  · exact m3n ‹_›
set_option maxHeartbeats 400000 in
theorem mayBe_4 (n : Int) (s : ByteArray) (w : World) (_hs : s.size ≤ maxLen) :
    Calls Try.prog 93 #[.agg #[.int .i64 4, .int .i64 n, .string s]] w fun e w' => e = .returned (.bool (mayB 4 n s)) ∧ Below w.heap.size w w' := by
  go_enter Try.func93, Try.ntmps93
  go_wp2
  all_goals go_ret
  all_goals refine ⟨ret_bool ?_, (Below.refl _ _).alloc (Nat.le_refl _) _⟩
  · exact m4 ‹_›
  · exact m4n ‹_›

set_option maxHeartbeats 400000 in
theorem mayBe_x (k n : Int) (s : ByteArray) (w : World) (_hs : s.size ≤ maxLen) (h1 : ¬ k = 1) (h2 : ¬ k = 2) (h3 : ¬ k = 3) (h4 : ¬ k = 4) (h5 : ¬ k = 5) (h6 : ¬ k = 6) (h7 : ¬ k = 7) :
    Calls Try.prog 93 #[.agg #[.int .i64 k, .int .i64 n, .string s]] w fun e w' => e = .returned (.bool (mayB k n s)) ∧ Below w.heap.size w w' := by
  go_enter Try.func93, Try.ntmps93
  go_wp2
  all_goals go_ret
  all_goals refine ⟨ret_bool ?_, (Below.refl _ _).alloc (Nat.le_refl _) _⟩
  all_goals simp [mayB, h1, h2, h3, h4, h5, h6, h7]

theorem mayBe_any (k n : Int) (s : ByteArray) (w : World) (hs : s.size ≤ maxLen) :
    Calls Try.prog 93 #[.agg #[.int .i64 k, .int .i64 n, .string s]] w fun e w' => e = .returned (.bool (mayB k n s)) ∧ Below w.heap.size w w' := by
  by_cases h1 : k = 1; · subst h1; exact mayBe_1 n s w hs
  by_cases h2 : k = 2; · subst h2; exact mayBe_2 n s w hs
  by_cases h3 : k = 3; · subst h3; exact mayBe_3 n s w hs
  by_cases h4 : k = 4; · subst h4; exact mayBe_4 n s w hs
  by_cases h5 : k = 5; · subst h5; exact mayBe_5 n s w hs
  by_cases h6 : k = 6; · subst h6; exact mayBe_6 n s w hs
  by_cases h7 : k = 7; · subst h7; exact mayBe_7 n s w hs
  exact mayBe_x k n s w hs h1 h2 h3 h4 h5 h6 h7

end Go.Proofs.Ytkoknogefmfmnaa

/-
  CONTRACTS: what appends a number, a text, a value; the bytes of a number, a value.
-/
namespace Go.Proofs.Ytkoknogefmfmnaa
open Go.RowKit

theorem app_mk {W w' : World} {B : Nat} {l : List UInt8} {v' : Value} (h : w'.ownsRow B 5 1 v' l.length (cellsL l)) (hb : Below B W w') : App W B l (.returned v') w' := ⟨v', rfl, h, hb⟩

set_option maxRecDepth 100000 in
set_option maxHeartbeats 1000000 in
theorem appendNumber_any (B : Nat) (b : Value) (l : List UInt8) (n : Int) (W : World) (hown : OwnB W B b l) (hl : l.length ≤ 40000) (hB : B ≤ W.heap.size) (h0 : -9223372036854775808 ≤ n) (h1 : n ≤ 9223372036854775807) :
    Calls Try.prog 64 #[b, .int .i64 n] W (App W B (l ++ numB n)) := by
  obtain ⟨i0, hi, hz0, hz1, hz2⟩ := info_parts info8
  have hmx : 50000 ≤ maxLen := by decide
  have HO := Lib.hid hown
  clear hown
  obtain ⟨c0, c1, c2, c3, c4, c5, c6, c7, hc⟩ : ∃ c0 c1 c2 c3 c4 c5 c6 c7 : UInt8, numB n = [c0, c1, c2, c3, c4, c5, c6, c7] := ⟨_, _, _, _, _, _, _, _, rfl⟩
  have HC := Lib.hid hc
  have h8 := fun W => eight_any n h0 h1 W
  rw [hc] at h8
  simp only [List.map_cons, List.map_nil] at h8
  have H8 := Lib.hid h8
  clear hc h8
  go_enter Try.func64, Try.ntmps64
  go_wp2_with fail
  refine (H8.out _).mono ?_
  rintro e w1 ⟨rfl, hb1⟩
  have HB1 := Lib.hid hb1
  clear hb1
  go_wp2_with (at_builtin; refine wpList_append_own _ rfl _ _ 39 rfl B 5 i0 (.int .u8 0) 1 1 Try.underlying39 hi hz0 hz1 hz2 rfl (by decide) _ _ _ rfl ((HO.out.next HB1.out).alloc _) ⟨w1.heap.size, 0, none⟩ 8 8 (cellsL [c0, c1, c2, c3, c4, c5, c6, c7]) rfl rfl (fun j u h => cell_lit _ _ _ j u h) (cellsL_one _) (by omega) (by omega) (by have := HB1.out.size; simp; omega) ?_; intro v' w3 hown' hgrow _)
  go_ret
  refine app_mk (by rw [HC.out]; rw [← cellsL_app] at hown'; simpa [Nat.add_assoc] using hown') ?_
  exact ((HB1.out.mono hB).alloc (by have := HB1.out.size; omega) _).trans (below_own ((HO.out.next HB1.out).alloc _) hgrow (by have := HB1.out.size; simp; omega))

/-- each byte of a text, 0 with 255 behind it -/
def zeroL : List UInt8 → List UInt8
  | [] => []
  | c :: r => if c = 0 then 0 :: 255 :: zeroL r else c :: zeroL r
theorem strB_zero : ∀ l : List UInt8, strB l = zeroL l ++ [0, 1]
  | [] => rfl
  | c :: r => by
    unfold strB zeroL
    rw [strB_zero r]
    split <;> rfl
theorem zeroL_app : ∀ (a b : List UInt8), zeroL (a ++ b) = zeroL a ++ zeroL b
  | [], b => rfl
  | c :: a, b => by
    simp only [List.cons_append, zeroL]
    rw [zeroL_app a b]
    split <;> rfl
theorem zeroL_len : ∀ l : List UInt8, (zeroL l).length ≤ 2 * l.length
  | [] => by simp [zeroL]
  | c :: r => by
    have := zeroL_len r
    unfold zeroL
    split <;> simp <;> omega
theorem take_one (s : ByteArray) (k : Nat) (h : k < s.size) : s.data.toList.take (k + 1) = s.data.toList.take k ++ [s[k]] := by
  rw [List.take_succ_eq_append_getElem (by simpa using h)]; rfl
theorem zeroL_snoc (s : ByteArray) (k : Nat) (h : k < s.size) : zeroL (s.data.toList.take (k + 1)) = zeroL (s.data.toList.take k) ++ (if s[k] = 0 then [0, 255] else [s[k]]) := by
  rw [take_one s k h, zeroL_app]
  congr 1
theorem zeroL_take (s : ByteArray) (k : Nat) : (zeroL (s.data.toList.take k)).length ≤ 2 * s.size := by
  have h1 := zeroL_len (s.data.toList.take k)
  have h2 : (s.data.toList.take k).length ≤ s.data.toList.length := List.length_take_le' k _
  have h3 : s.data.toList.length = s.size := Array.length_toList
  omega
theorem zeroL_all (s : ByteArray) (k : Nat) (h : s.size ≤ k) : strB s.data.toList = zeroL (s.data.toList.take k) ++ [0, 1] := by
  rw [strB_zero, List.take_of_length_le (by simpa using h)]

set_option maxRecDepth 100000 in
set_option maxHeartbeats 2000000 in
theorem appendString_any (B : Nat) (b : Value) (l : List UInt8) (s : ByteArray) (W : World) (hown : OwnB W B b l) (hl : l.length ≤ 20000) (hB : B ≤ W.heap.size) (hs : s.size ≤ 5000) :
    Calls Try.prog 96 #[b, .string s] W (App W B (l ++ strB s.data.toList)) := by
  obtain ⟨i0, hi, hz0, hz1, hz2⟩ := info_parts info8
  have hmx : 50000 ≤ maxLen := by decide
  go_enter Try.func96, Try.ntmps96
  go_wp2
  go_loopg [0, 5, 8] s.size (fun g x y z wr => ∃ (i : Nat) (v : Value), x = v ∧ z = .int .i64 i ∧ i + g = s.size ∧ OwnB wr B v (l ++ zeroL (s.data.toList.take i)) ∧ Hid (Below B W wr) ∧ B ≤ wr.heap.size)
  case atStart => exact ⟨0, b, rfl, rfl, by omega, by simpa [zeroL] using hown, Below.refl _ _, hB⟩
  case round =>
    obtain ⟨i, v, rfl, rfl, hi2, hrow, HB, hBr⟩ := hrel
    clear hown hB
    have hlen : (l ++ zeroL (s.data.toList.take i)).length ≤ 30000 := by
      rw [List.length_append]
      have := zeroL_take s i
      omega
    have HR := Lib.hid hrow
    clear hrow
    cases gk with
    | zero =>
      have hiz : ¬ ((i : Int) < (s.size : Int)) := by omega
      have HZ := Lib.hid (zeroL_all s i (by omega))
      go_wp2_with (at_builtin; refine wpList_append_own _ rfl _ _ 39 rfl B 5 i0 (.int .u8 0) 1 1 Try.underlying39 hi hz0 hz1 hz2 rfl (by decide) _ _ _ rfl (HR.out.alloc _) ⟨wr.heap.size, 0, none⟩ 2 2 (cellsL [0, 1]) rfl rfl (fun j u h => cell_lit _ _ _ j u h) (cellsL_one _) (by omega) (by omega) (by simp; omega) ?_; intro v' w3 hown' hgrow _)
      go_ret
      refine app_mk (by rw [HZ.out, ← List.append_assoc]; rw [← cellsL_app] at hown'; simpa [Nat.add_assoc] using hown') ?_
      exact (HB.out.alloc hBr _).trans (below_own (HR.out.alloc _) hgrow (by simp; omega))
    | succ g =>
      have hiz : (i : Int) < (s.size : Int) := by omega
      have hin : i < s.size := by omega
      have HS := Lib.hid (zeroL_snoc s i hin)
      by_cases hc : s[i] = 0
      · have hcc : ((s[i].toNat : Int) == 0) = true := by rw [hc]; rfl
        have HC := Lib.hid hc
        have tok : True := trivial
        clear hc
        go_wp2_with (first
          | (at_builtin; have _t := tok; refine wpList_append_own _ rfl _ _ 39 rfl B 5 i0 (.int .u8 0) 1 1 Try.underlying39 hi hz0 hz1 hz2 rfl (by decide) _ _ _ rfl (HR.out.alloc _) ⟨wr.heap.size, 0, none⟩ 1 1 (cellsL [s[i]]) rfl rfl (fun j u h => cell_lit _ _ _ j u h) (cellsL_one _) (by omega) (by omega) (by simp; omega) ?_; intro v' w3 hown' hgrow _; have HR3 : Hid (OwnB w3 B v' (l ++ zeroL (s.data.toList.take i) ++ [s[i]])) := (by show World.ownsRow _ _ _ _ _ _ _; rw [← cellsL_app] at hown'; simpa [Nat.add_assoc] using hown'); have HB3 := Lib.hid ((HB.out.alloc hBr _).trans (below_own (HR.out.alloc _) hgrow (by simp; omega))); have hsz3 : B ≤ w3.heap.size := (by have := hgrow.size; simp at this; omega); clear tok hown' hgrow)
          | (at_builtin; refine wpList_append_own _ rfl _ _ 39 rfl B 5 i0 (.int .u8 0) 1 1 Try.underlying39 hi hz0 hz1 hz2 rfl (by decide) _ _ _ rfl (HR3.out.alloc _) ⟨w3.heap.size, 0, none⟩ 1 1 (cellsL [255]) rfl rfl (fun j u h => cell_lit _ _ _ j u h) (cellsL_one _) (by simp at hlen ⊢; omega) (by simp at hlen ⊢; omega) (by simp; omega) ?_; intro v'' w4 hown'' hgrow' _))
        go_roundg g
        case measure => omega
        case rel => exact ⟨i + 1, v'', rfl, by go_num, by omega, (by rw [HS.out, HC.out]; rw [← cellsL_app, HC.out] at hown''; show World.ownsRow _ _ _ _ _ _ _; simpa [Nat.add_assoc] using hown''), HB3.out.trans ((Below.refl _ _).alloc hsz3 _ |>.trans (below_own (HR3.out.alloc _) hgrow' (by simp; omega))), by have := hgrow'.size; simp at this; omega⟩
      · have hcc : ((s[i].toNat : Int) == 0) = false := by
          rw [beq_eq_false_iff_ne]
          intro e
          exact hc (UInt8.toNat_inj.1 (by show s[i].toNat = 0; omega))
        have HC := Lib.hid hc
        clear hc
        go_wp2_with (at_builtin; refine wpList_append_own _ rfl _ _ 39 rfl B 5 i0 (.int .u8 0) 1 1 Try.underlying39 hi hz0 hz1 hz2 rfl (by decide) _ _ _ rfl (HR.out.alloc _) ⟨wr.heap.size, 0, none⟩ 1 1 (cellsL [s[i]]) rfl rfl (fun j u h => cell_lit _ _ _ j u h) (cellsL_one _) (by omega) (by omega) (by simp; omega) ?_; intro v' w3 hown' hgrow _)
        go_roundg g
        case measure => omega
        case rel => exact ⟨i + 1, v', rfl, by go_num, by omega, (by rw [HS.out, if_neg HC.out]; rw [← cellsL_app] at hown'; show World.ownsRow _ _ _ _ _ _ _; simpa [Nat.add_assoc] using hown'), (HB.out.alloc hBr _).trans (below_own (HR.out.alloc _) hgrow (by simp; omega)), by have := hgrow.size; simp at this; omega⟩
end Go.Proofs.Ytkoknogefmfmnaa

/-
  CONTRACTS: appendValue; the bytes of a number, a value.
-/
namespace Go.Proofs.Ytkoknogefmfmnaa
open Go.RowKit

/-- a value's own block -/
def ValAt (W : World) (b : Nat) (k n : Int) (s : ByteArray) : Prop := W.heap[b]? = some (.cells #[.int .i64 k, .int .i64 n, .string s] 24 (0, 0))
theorem ValAt.c0 {W : World} {b : Nat} {k n : Int} {s : ByteArray} (h : ValAt W b k n s) : W.cell? ⟨b, 0, none⟩ = some (.int .i64 k) := by unfold ValAt at h; simp [World.cell?, h]
theorem ValAt.c1 {W : World} {b : Nat} {k n : Int} {s : ByteArray} (h : ValAt W b k n s) : W.cell? ⟨b, 1, none⟩ = some (.int .i64 n) := by unfold ValAt at h; simp [World.cell?, h]
theorem ValAt.c2 {W : World} {b : Nat} {k n : Int} {s : ByteArray} (h : ValAt W b k n s) : W.cell? ⟨b, 2, none⟩ = some (.string s) := by unfold ValAt at h; simp [World.cell?, h]
theorem valAt_new (W : World) (k n : Int) (s : ByteArray) : ValAt (W.alloc (.cells #[.int .i64 k, .int .i64 n, .string s] 24)) W.heap.size k n s := heap_alloc_new W _
theorem ValAt.lt {W : World} {b : Nat} {k n : Int} {s : ByteArray} (h : ValAt W b k n s) : b < W.heap.size := (Array.getElem?_eq_some_iff.1 h).1
theorem ValAt.grown {W W' : World} {b B : Nat} {k n : Int} {s : ByteArray} {v : Value} {l : List UInt8} (h : ValAt W b k n s) (ho : OwnB W B v l) (hg : W.grownBy W' v.ownBlock) : ValAt W' b k n s :=
  (hg.block b h.lt (blk_own h (by decide) ho)).trans h
theorem ValAt.next {W W' : World} {b B : Nat} {k n : Int} {s : ByteArray} (h : ValAt W b k n s) (hb : Below B W W') (hB : b < B) : ValAt W' b k n s := (hb.block b hB).trans h
theorem ValAt.alloc {W : World} {b : Nat} {k n : Int} {s : ByteArray} (h : ValAt W b k n s) (o : Obj) : ValAt (W.alloc o) b k n s := (Below.heap_alloc W o b h.lt).trans h

set_option maxRecDepth 100000 in
set_option maxHeartbeats 1000000 in
theorem appendValue_1 (B : Nat) (b : Value) (l : List UInt8) (n : Int) (s : ByteArray) (W : World) (hown : OwnB W B b l) (hl : l.length ≤ 15000) (hB : B ≤ W.heap.size) (h0 : -9223372036854775808 ≤ n) (h1 : n ≤ 9223372036854775807) :
    Calls Try.prog 65 #[b, .agg #[.int .i64 1, .int .i64 n, .string s]] W (App W B (l ++ valB 1 n s)) := by
  obtain ⟨i0, hi, hz0, hz1, hz2⟩ := info_parts info8
  have hmx : 50000 ≤ maxLen := by decide
  obtain ⟨W0, hW0⟩ : ∃ W0, W.alloc (.cells #[.int .i64 1, .int .i64 n, .string s] 24) = W0 := ⟨_, rfl⟩
  have HO : Hid (OwnB W0 B b l) := by rw [← hW0]; exact hown.alloc _
  have HV : Hid (ValAt W0 W.heap.size 1 n s) := by rw [← hW0]; exact valAt_new W 1 n s
  have HB0 : Hid (Below B W W0) := by rw [← hW0]; exact (Below.refl _ _).alloc hB _
  have hB0 : B ≤ W0.heap.size := by rw [← hW0]; simp; omega
  have HW0 := Lib.hid hW0
  have tok : True := trivial
  clear hown hW0 hB
  go_enter Try.func65, Try.ntmps65
  go_upto_region 1 with (fail)
  rw [HW0.out]
  have d0 := HV.out.c0
  have d1 := HV.out.c1
  have d2 := HV.out.c2
  go_wp2_with (at_builtin; have _t := tok; refine wpList_append_own _ rfl _ _ 39 rfl B 5 i0 (.int .u8 0) 1 1 Try.underlying39 hi hz0 hz1 hz2 rfl (by decide) _ _ _ rfl (HO.out.alloc _) ⟨W0.heap.size, 0, none⟩ 1 1 (cellsL [1]) rfl rfl (fun j u h => cell_lit _ _ _ j u h) (cellsL_one _) (by omega) (by omega) (by simp; omega) ?_; intro v' w3 hown' hgrow _; have HR3 : Hid (OwnB w3 B v' (l ++ [1])) := (by show World.ownsRow _ _ _ _ _ _ _; rw [← cellsL_app] at hown'; simpa [Nat.add_assoc] using hown'); have HB3 := Lib.hid ((HB0.out.alloc hB0 _).trans (below_own (HO.out.alloc _) hgrow (by simp; omega))); have hsz3 : B ≤ w3.heap.size := (by have := hgrow.size; simp at this; omega); have hv3 := (HV.out.alloc (.cells #[.int .u8 1] 5)).grown (HO.out.alloc _) hgrow; have c0 := hv3.c0; have c1 := hv3.c1; have c2 := hv3.c2; clear tok hown' hgrow hv3)
  refine (appendNumber_any B _ _ n _ HR3.out (by simp; omega) hsz3 h0 h1).mono ?_
  rintro e w4 ⟨v4, rfl, ho4, hb4⟩
  have HR4 := Lib.hid ho4
  have HB4 := Lib.hid (HB3.out.trans hb4)
  clear ho4 hb4 c0 c1 c2
  go_wp2
  go_ret
  refine app_mk ?_ HB4.out
  have h4 := HR4.out
  rw [List.append_assoc] at h4
  exact h4

set_option maxRecDepth 100000 in
set_option maxHeartbeats 1000000 in
theorem appendValue_5 (B : Nat) (b : Value) (l : List UInt8) (n : Int) (s : ByteArray) (W : World) (hown : OwnB W B b l) (hl : l.length ≤ 15000) (hB : B ≤ W.heap.size) (h0 : -9223372036854775808 ≤ n) (h1 : n ≤ 9223372036854775807) :
    Calls Try.prog 65 #[b, .agg #[.int .i64 5, .int .i64 n, .string s]] W (App W B (l ++ valB 5 n s)) := by
  obtain ⟨i0, hi, hz0, hz1, hz2⟩ := info_parts info8
  have hmx : 50000 ≤ maxLen := by decide
  obtain ⟨W0, hW0⟩ : ∃ W0, W.alloc (.cells #[.int .i64 5, .int .i64 n, .string s] 24) = W0 := ⟨_, rfl⟩
  have HO : Hid (OwnB W0 B b l) := by rw [← hW0]; exact hown.alloc _
  have HV : Hid (ValAt W0 W.heap.size 5 n s) := by rw [← hW0]; exact valAt_new W 5 n s
  have HB0 : Hid (Below B W W0) := by rw [← hW0]; exact (Below.refl _ _).alloc hB _
  have hB0 : B ≤ W0.heap.size := by rw [← hW0]; simp; omega
  have HW0 := Lib.hid hW0
  have tok : True := trivial
  clear hown hW0 hB
  go_enter Try.func65, Try.ntmps65
  go_upto_region 1 with (fail)
  rw [HW0.out]
  have d0 := HV.out.c0
  have d1 := HV.out.c1
  have d2 := HV.out.c2
  go_wp2_with (at_builtin; have _t := tok; refine wpList_append_own _ rfl _ _ 39 rfl B 5 i0 (.int .u8 0) 1 1 Try.underlying39 hi hz0 hz1 hz2 rfl (by decide) _ _ _ rfl (HO.out.alloc _) ⟨W0.heap.size, 0, none⟩ 1 1 (cellsL [5]) rfl rfl (fun j u h => cell_lit _ _ _ j u h) (cellsL_one _) (by omega) (by omega) (by simp; omega) ?_; intro v' w3 hown' hgrow _; have HR3 : Hid (OwnB w3 B v' (l ++ [5])) := (by show World.ownsRow _ _ _ _ _ _ _; rw [← cellsL_app] at hown'; simpa [Nat.add_assoc] using hown'); have HB3 := Lib.hid ((HB0.out.alloc hB0 _).trans (below_own (HO.out.alloc _) hgrow (by simp; omega))); have hsz3 : B ≤ w3.heap.size := (by have := hgrow.size; simp at this; omega); have hv3 := (HV.out.alloc (.cells #[.int .u8 5] 5)).grown (HO.out.alloc _) hgrow; have c0 := hv3.c0; have c1 := hv3.c1; have c2 := hv3.c2; clear tok hown' hgrow hv3)
  refine (appendNumber_any B _ _ n _ HR3.out (by simp; omega) hsz3 h0 h1).mono ?_
  rintro e w4 ⟨v4, rfl, ho4, hb4⟩
  have HR4 := Lib.hid ho4
  have HB4 := Lib.hid (HB3.out.trans hb4)
  clear ho4 hb4 c0 c1 c2
  go_wp2
  go_ret
  refine app_mk ?_ HB4.out
  have h4 := HR4.out
  rw [List.append_assoc] at h4
  exact h4

set_option maxRecDepth 100000 in
set_option maxHeartbeats 1000000 in
theorem appendValue_6 (B : Nat) (b : Value) (l : List UInt8) (n : Int) (s : ByteArray) (W : World) (hown : OwnB W B b l) (hl : l.length ≤ 15000) (hB : B ≤ W.heap.size) (h0 : -9223372036854775808 ≤ n) (h1 : n ≤ 9223372036854775807) :
    Calls Try.prog 65 #[b, .agg #[.int .i64 6, .int .i64 n, .string s]] W (App W B (l ++ valB 6 n s)) := by
  obtain ⟨i0, hi, hz0, hz1, hz2⟩ := info_parts info8
  have hmx : 50000 ≤ maxLen := by decide
  obtain ⟨W0, hW0⟩ : ∃ W0, W.alloc (.cells #[.int .i64 6, .int .i64 n, .string s] 24) = W0 := ⟨_, rfl⟩
  have HO : Hid (OwnB W0 B b l) := by rw [← hW0]; exact hown.alloc _
  have HV : Hid (ValAt W0 W.heap.size 6 n s) := by rw [← hW0]; exact valAt_new W 6 n s
  have HB0 : Hid (Below B W W0) := by rw [← hW0]; exact (Below.refl _ _).alloc hB _
  have hB0 : B ≤ W0.heap.size := by rw [← hW0]; simp; omega
  have HW0 := Lib.hid hW0
  have tok : True := trivial
  clear hown hW0 hB
  go_enter Try.func65, Try.ntmps65
  go_upto_region 1 with (fail)
  rw [HW0.out]
  have d0 := HV.out.c0
  have d1 := HV.out.c1
  have d2 := HV.out.c2
  go_wp2_with (at_builtin; have _t := tok; refine wpList_append_own _ rfl _ _ 39 rfl B 5 i0 (.int .u8 0) 1 1 Try.underlying39 hi hz0 hz1 hz2 rfl (by decide) _ _ _ rfl (HO.out.alloc _) ⟨W0.heap.size, 0, none⟩ 1 1 (cellsL [6]) rfl rfl (fun j u h => cell_lit _ _ _ j u h) (cellsL_one _) (by omega) (by omega) (by simp; omega) ?_; intro v' w3 hown' hgrow _; have HR3 : Hid (OwnB w3 B v' (l ++ [6])) := (by show World.ownsRow _ _ _ _ _ _ _; rw [← cellsL_app] at hown'; simpa [Nat.add_assoc] using hown'); have HB3 := Lib.hid ((HB0.out.alloc hB0 _).trans (below_own (HO.out.alloc _) hgrow (by simp; omega))); have hsz3 : B ≤ w3.heap.size := (by have := hgrow.size; simp at this; omega); have hv3 := (HV.out.alloc (.cells #[.int .u8 6] 5)).grown (HO.out.alloc _) hgrow; have c0 := hv3.c0; have c1 := hv3.c1; have c2 := hv3.c2; clear tok hown' hgrow hv3)
  refine (appendNumber_any B _ _ n _ HR3.out (by simp; omega) hsz3 h0 h1).mono ?_
  rintro e w4 ⟨v4, rfl, ho4, hb4⟩
  have HR4 := Lib.hid ho4
  have HB4 := Lib.hid (HB3.out.trans hb4)
  clear ho4 hb4 c0 c1 c2
  go_wp2
  go_ret
  refine app_mk ?_ HB4.out
  have h4 := HR4.out
  rw [List.append_assoc] at h4
  exact h4

set_option maxRecDepth 100000 in
set_option maxHeartbeats 1000000 in
theorem appendValue_2 (B : Nat) (b : Value) (l : List UInt8) (n : Int) (s : ByteArray) (W : World) (hown : OwnB W B b l) (hl : l.length ≤ 15000) (hB : B ≤ W.heap.size) (hn : n = 0 ∨ n = 1) :
    Calls Try.prog 65 #[b, .agg #[.int .i64 2, .int .i64 n, .string s]] W (App W B (l ++ valB 2 n s)) := by
  obtain ⟨c, hc⟩ : ∃ c : UInt8, UInt8.ofNat n.toNat = c := ⟨_, rfl⟩
  have hcn : (c.toNat : Int) = n := by rw [← hc]; rcases hn with rfl | rfl <;> rfl
  have HC := Lib.hid hc
  have HN := Lib.hid hcn
  clear hc hcn
  obtain ⟨i0, hi, hz0, hz1, hz2⟩ := info_parts info8
  have hmx : 50000 ≤ maxLen := by decide
  obtain ⟨W0, hW0⟩ : ∃ W0, W.alloc (.cells #[.int .i64 2, .int .i64 n, .string s] 24) = W0 := ⟨_, rfl⟩
  have HO : Hid (OwnB W0 B b l) := by rw [← hW0]; exact hown.alloc _
  have HV : Hid (ValAt W0 W.heap.size 2 n s) := by rw [← hW0]; exact valAt_new W 2 n s
  have HB0 : Hid (Below B W W0) := by rw [← hW0]; exact (Below.refl _ _).alloc hB _
  have hB0 : B ≤ W0.heap.size := by rw [← hW0]; simp; omega
  have HW0 := Lib.hid hW0
  have tok : True := trivial
  clear hown hW0 hB
  go_enter Try.func65, Try.ntmps65
  go_upto_region 1 with (fail)
  rw [HW0.out]
  have d0 := HV.out.c0
  have d1 := HV.out.c1
  have d2 := HV.out.c2
  have n0 : 0 ≤ n := by omega
  have n1 : n ≤ 1 := by omega
  clear hn
  go_wp2_with (first | (at_builtin; have _t := tok; refine wpList_append_own _ rfl _ _ 39 rfl B 5 i0 (.int .u8 0) 1 1 Try.underlying39 hi hz0 hz1 hz2 rfl (by decide) _ _ _ rfl (HO.out.alloc _) ⟨W0.heap.size, 0, none⟩ 1 1 (cellsL [2]) rfl rfl (fun j u h => cell_lit _ _ _ j u h) (cellsL_one _) (by omega) (by omega) (by simp; omega) ?_; intro v' w3 hown' hgrow _; have HR3 : Hid (OwnB w3 B v' (l ++ [2])) := (by show World.ownsRow _ _ _ _ _ _ _; rw [← cellsL_app] at hown'; simpa [Nat.add_assoc] using hown'); have HB3 := Lib.hid ((HB0.out.alloc hB0 _).trans (below_own (HO.out.alloc _) hgrow (by simp; omega))); have hsz3 : B ≤ w3.heap.size := (by have := hgrow.size; simp at this; omega); have hv3 := (HV.out.alloc (.cells #[.int .u8 2] 5)).grown (HO.out.alloc _) hgrow; have c0 := hv3.c0; have c1 := hv3.c1; have c2 := hv3.c2; clear tok hown' hgrow hv3) | (at_builtin; refine wpList_append_own _ rfl _ _ 39 rfl B 5 i0 (.int .u8 0) 1 1 Try.underlying39 hi hz0 hz1 hz2 rfl (by decide) _ _ _ rfl (HR3.out.alloc _) ⟨w3.heap.size, 0, none⟩ 1 1 (cellsL [c]) rfl rfl (fun j u h => cell_lit _ _ _ j u (by rw [← h, ← HN.out]; rfl)) (cellsL_one _) (by simp; omega) (by simp; omega) (by simp; omega) ?_; intro v'' w4 hown'' hgrow' _))
  go_ret
  refine app_mk ?_ (HB3.out.trans (((Below.refl _ _).alloc hsz3 _).trans (below_own (HR3.out.alloc _) hgrow' (by simp; omega))))
  rw [← cellsL_app] at hown''
  show World.ownsRow _ _ _ _ _ (l ++ (2 :: [UInt8.ofNat n.toNat])).length _
  rw [HC.out]
  simpa [Nat.add_assoc, valB, tailB, HC.out] using hown''

set_option maxRecDepth 100000 in
set_option maxHeartbeats 1000000 in
theorem appendValue_3 (B : Nat) (b : Value) (l : List UInt8) (s : ByteArray) (W : World) (hown : OwnB W B b l) (hl : l.length ≤ 15000) (hB : B ≤ W.heap.size) (hs : s.size ≤ 5000) :
    Calls Try.prog 65 #[b, .agg #[.int .i64 3, .int .i64 0, .string s]] W (App W B (l ++ valB 3 0 s)) := by
  obtain ⟨i0, hi, hz0, hz1, hz2⟩ := info_parts info8
  have hmx : 50000 ≤ maxLen := by decide
  obtain ⟨W0, hW0⟩ : ∃ W0, W.alloc (.cells #[.int .i64 3, .int .i64 0, .string s] 24) = W0 := ⟨_, rfl⟩
  have HO : Hid (OwnB W0 B b l) := by rw [← hW0]; exact hown.alloc _
  have HV : Hid (ValAt W0 W.heap.size 3 0 s) := by rw [← hW0]; exact valAt_new W 3 0 s
  have HB0 : Hid (Below B W W0) := by rw [← hW0]; exact (Below.refl _ _).alloc hB _
  have hB0 : B ≤ W0.heap.size := by rw [← hW0]; simp; omega
  have HW0 := Lib.hid hW0
  have tok : True := trivial
  clear hown hW0 hB
  go_enter Try.func65, Try.ntmps65
  go_upto_region 1 with (fail)
  rw [HW0.out]
  have d0 := HV.out.c0
  have d1 := HV.out.c1
  have d2 := HV.out.c2
  go_wp2_with (at_builtin; have _t := tok; refine wpList_append_own _ rfl _ _ 39 rfl B 5 i0 (.int .u8 0) 1 1 Try.underlying39 hi hz0 hz1 hz2 rfl (by decide) _ _ _ rfl (HO.out.alloc _) ⟨W0.heap.size, 0, none⟩ 1 1 (cellsL [3]) rfl rfl (fun j u h => cell_lit _ _ _ j u h) (cellsL_one _) (by omega) (by omega) (by simp; omega) ?_; intro v' w3 hown' hgrow _; have HR3 : Hid (OwnB w3 B v' (l ++ [3])) := (by show World.ownsRow _ _ _ _ _ _ _; rw [← cellsL_app] at hown'; simpa [Nat.add_assoc] using hown'); have HB3 := Lib.hid ((HB0.out.alloc hB0 _).trans (below_own (HO.out.alloc _) hgrow (by simp; omega))); have hsz3 : B ≤ w3.heap.size := (by have := hgrow.size; simp at this; omega); have hv3 := (HV.out.alloc (.cells #[.int .u8 3] 5)).grown (HO.out.alloc _) hgrow; have c0 := hv3.c0; have c1 := hv3.c1; have c2 := hv3.c2; clear tok hown' hgrow hv3)
  refine (appendString_any B _ _ s _ HR3.out (by simp; omega) hsz3 hs).mono ?_
  rintro e w4 ⟨v4, rfl, ho4, hb4⟩
  have HR4 := Lib.hid ho4
  have HB4 := Lib.hid (HB3.out.trans hb4)
  clear ho4 hb4 c0 c1 c2
  go_wp2
  go_ret
  refine app_mk ?_ HB4.out
  have h4 := HR4.out
  rw [List.append_assoc] at h4
  exact h4

set_option maxRecDepth 100000 in
set_option maxHeartbeats 1000000 in
theorem appendValue_4 (B : Nat) (b : Value) (l : List UInt8) (s : ByteArray) (W : World) (hown : OwnB W B b l) (hl : l.length ≤ 15000) (hB : B ≤ W.heap.size) (hs : s.size ≤ 5000) :
    Calls Try.prog 65 #[b, .agg #[.int .i64 4, .int .i64 0, .string s]] W (App W B (l ++ valB 4 0 s)) := by
  obtain ⟨i0, hi, hz0, hz1, hz2⟩ := info_parts info8
  have hmx : 50000 ≤ maxLen := by decide
  obtain ⟨W0, hW0⟩ : ∃ W0, W.alloc (.cells #[.int .i64 4, .int .i64 0, .string s] 24) = W0 := ⟨_, rfl⟩
  have HO : Hid (OwnB W0 B b l) := by rw [← hW0]; exact hown.alloc _
  have HV : Hid (ValAt W0 W.heap.size 4 0 s) := by rw [← hW0]; exact valAt_new W 4 0 s
  have HB0 : Hid (Below B W W0) := by rw [← hW0]; exact (Below.refl _ _).alloc hB _
  have hB0 : B ≤ W0.heap.size := by rw [← hW0]; simp; omega
  have HW0 := Lib.hid hW0
  have tok : True := trivial
  clear hown hW0 hB
  go_enter Try.func65, Try.ntmps65
  go_upto_region 1 with (fail)
  rw [HW0.out]
  have d0 := HV.out.c0
  have d1 := HV.out.c1
  have d2 := HV.out.c2
  go_wp2_with (at_builtin; have _t := tok; refine wpList_append_own _ rfl _ _ 39 rfl B 5 i0 (.int .u8 0) 1 1 Try.underlying39 hi hz0 hz1 hz2 rfl (by decide) _ _ _ rfl (HO.out.alloc _) ⟨W0.heap.size, 0, none⟩ 1 1 (cellsL [4]) rfl rfl (fun j u h => cell_lit _ _ _ j u h) (cellsL_one _) (by omega) (by omega) (by simp; omega) ?_; intro v' w3 hown' hgrow _; have HR3 : Hid (OwnB w3 B v' (l ++ [4])) := (by show World.ownsRow _ _ _ _ _ _ _; rw [← cellsL_app] at hown'; simpa [Nat.add_assoc] using hown'); have HB3 := Lib.hid ((HB0.out.alloc hB0 _).trans (below_own (HO.out.alloc _) hgrow (by simp; omega))); have hsz3 : B ≤ w3.heap.size := (by have := hgrow.size; simp at this; omega); have hv3 := (HV.out.alloc (.cells #[.int .u8 4] 5)).grown (HO.out.alloc _) hgrow; have c0 := hv3.c0; have c1 := hv3.c1; have c2 := hv3.c2; clear tok hown' hgrow hv3)
  refine (appendString_any B _ _ s _ HR3.out (by simp; omega) hsz3 hs).mono ?_
  rintro e w4 ⟨v4, rfl, ho4, hb4⟩
  have HR4 := Lib.hid ho4
  have HB4 := Lib.hid (HB3.out.trans hb4)
  clear ho4 hb4 c0 c1 c2
  go_wp2
  go_ret
  refine app_mk ?_ HB4.out
  have h4 := HR4.out
  rw [List.append_assoc] at h4
  exact h4

set_option maxRecDepth 100000 in
set_option maxHeartbeats 1000000 in
theorem appendValue_7 (B : Nat) (b : Value) (l : List UInt8) (s : ByteArray) (W : World) (hown : OwnB W B b l) (hl : l.length ≤ 15000) (hB : B ≤ W.heap.size) (hs : s.size ≤ 5000) :
    Calls Try.prog 65 #[b, .agg #[.int .i64 7, .int .i64 0, .string s]] W (App W B (l ++ valB 7 0 s)) := by
  obtain ⟨i0, hi, hz0, hz1, hz2⟩ := info_parts info8
  have hmx : 50000 ≤ maxLen := by decide
  obtain ⟨W0, hW0⟩ : ∃ W0, W.alloc (.cells #[.int .i64 7, .int .i64 0, .string s] 24) = W0 := ⟨_, rfl⟩
  have HO : Hid (OwnB W0 B b l) := by rw [← hW0]; exact hown.alloc _
  have HV : Hid (ValAt W0 W.heap.size 7 0 s) := by rw [← hW0]; exact valAt_new W 7 0 s
  have HB0 : Hid (Below B W W0) := by rw [← hW0]; exact (Below.refl _ _).alloc hB _
  have hB0 : B ≤ W0.heap.size := by rw [← hW0]; simp; omega
  have HW0 := Lib.hid hW0
  have tok : True := trivial
  clear hown hW0 hB
  go_enter Try.func65, Try.ntmps65
  go_upto_region 1 with (fail)
  rw [HW0.out]
  have d0 := HV.out.c0
  have d1 := HV.out.c1
  have d2 := HV.out.c2
  go_wp2_with (at_builtin; have _t := tok; refine wpList_append_own _ rfl _ _ 39 rfl B 5 i0 (.int .u8 0) 1 1 Try.underlying39 hi hz0 hz1 hz2 rfl (by decide) _ _ _ rfl (HO.out.alloc _) ⟨W0.heap.size, 0, none⟩ 1 1 (cellsL [7]) rfl rfl (fun j u h => cell_lit _ _ _ j u h) (cellsL_one _) (by omega) (by omega) (by simp; omega) ?_; intro v' w3 hown' hgrow _; have HR3 : Hid (OwnB w3 B v' (l ++ [7])) := (by show World.ownsRow _ _ _ _ _ _ _; rw [← cellsL_app] at hown'; simpa [Nat.add_assoc] using hown'); have HB3 := Lib.hid ((HB0.out.alloc hB0 _).trans (below_own (HO.out.alloc _) hgrow (by simp; omega))); have hsz3 : B ≤ w3.heap.size := (by have := hgrow.size; simp at this; omega); have hv3 := (HV.out.alloc (.cells #[.int .u8 7] 5)).grown (HO.out.alloc _) hgrow; have c0 := hv3.c0; have c1 := hv3.c1; have c2 := hv3.c2; clear tok hown' hgrow hv3)
  refine (appendString_any B _ _ s _ HR3.out (by simp; omega) hsz3 hs).mono ?_
  rintro e w4 ⟨v4, rfl, ho4, hb4⟩
  have HR4 := Lib.hid ho4
  have HB4 := Lib.hid (HB3.out.trans hb4)
  clear ho4 hb4 c0 c1 c2
  go_wp2
  go_ret
  refine app_mk ?_ HB4.out
  have h4 := HR4.out
  rw [List.append_assoc] at h4
  exact h4

theorem appendValue_any (B : Nat) (b : Value) (l : List UInt8) (k n : Int) (s : ByteArray) (W : World) (hown : OwnB W B b l) (hl : l.length ≤ 15000) (hB : B ≤ W.heap.size) (hs : s.size ≤ 5000) (h0 : -9223372036854775808 ≤ n) (h1 : n ≤ 9223372036854775807) (hm : mayB k n s = true) :
    Calls Try.prog 65 #[b, .agg #[.int .i64 k, .int .i64 n, .string s]] W (App W B (l ++ valB k n s)) := by
  have hk := may_kind hm
  have h7 : k = 1 ∨ k = 2 ∨ k = 3 ∨ k = 4 ∨ k = 5 ∨ k = 6 ∨ k = 7 := by omega
  rcases h7 with rfl | rfl | rfl | rfl | rfl | rfl | rfl
  · exact appendValue_1 B b l n s W hown hl hB h0 h1
  · exact appendValue_2 B b l n s W hown hl hB (may_bool hm).2
  · obtain rfl := may_str hm (by simp)
    exact appendValue_3 B b l s W hown hl hB hs
  · obtain rfl := may_str hm (by simp)
    exact appendValue_4 B b l s W hown hl hB hs
  · exact appendValue_5 B b l n s W hown hl hB h0 h1
  · exact appendValue_6 B b l n s W hown hl hB h0 h1
  · obtain rfl := may_str hm (by simp)
    exact appendValue_7 B b l s W hown hl hB hs

end Go.Proofs.Ytkoknogefmfmnaa

/-
  CONTRACTS: Number, Value, Key (the program's).
-/
namespace Go.Proofs.Ytkoknogefmfmnaa
open Go.RowKit

def checkN (k n : Int) (s : ByteArray) : Int := if mayB k n s = true then 0 else 10
theorem ck_no {k n : Int} {s : ByteArray} (h : (!mayB k n s) = true) : 10 = checkN k n s := by
  have : mayB k n s = false := by simpa using h
  unfold checkN; rw [this]; rfl
theorem ck_yes {k n : Int} {s : ByteArray} (h : (!mayB k n s) = false) : 0 = checkN k n s := by
  have : mayB k n s = true := by simpa using h
  unfold checkN; rw [this]; rfl
set_option maxHeartbeats 400000 in
theorem check_any (k n : Int) (s : ByteArray) (w : World) (hs : s.size ≤ maxLen) :
    Calls Try.prog 61 #[.agg #[.int .i64 k, .int .i64 n, .string s]] w fun e w' => e = .returned (.int .i64 (checkN k n s)) ∧ Below w.heap.size w w' := by
  go_enter Try.func61, Try.ntmps61
  go_wp2_with (go_at_call 93; refine (mayBe_any _ _ _ _ (by assumption)).mono ?_; rintro e w' ⟨rfl, hb⟩)
  all_goals go_ret
  all_goals refine ⟨ret_i64 ?_, ((Below.refl _ _).alloc (Nat.le_refl _) _).trans (hb.mono (by simp))⟩
  · exact ck_no ‹_›
  · exact ck_yes ‹_›
theorem check_yes {k n : Int} {s : ByteArray} (w : World) (hs : s.size ≤ maxLen) (hm : mayB k n s = true) :
    Calls Try.prog 61 #[.agg #[.int .i64 k, .int .i64 n, .string s]] w fun e w' => e = .returned (.int .i64 0) ∧ Below w.heap.size w w' :=
  (check_any k n s w hs).mono fun e w' ⟨h, hb⟩ => ⟨by rw [h]; unfold checkN; rw [if_pos hm], hb⟩
theorem check_no {k n : Int} {s : ByteArray} (w : World) (hs : s.size ≤ maxLen) (hm : mayB k n s = false) :
    Calls Try.prog 61 #[.agg #[.int .i64 k, .int .i64 n, .string s]] w fun e w' => e = .returned (.int .i64 10) ∧ Below w.heap.size w w' :=
  (check_any k n s w hs).mono fun e w' ⟨h, hb⟩ => ⟨by rw [h]; unfold checkN; rw [hm]; rfl, hb⟩

/-- What Value answers. -/
def ValEnd (W : World) (k n : Int) (s : ByteArray) (e : Ending) (w' : World) : Prop :=
  (mayB k n s = true ∧ (∃ v', e = .returned (.tuple #[v', .int .i64 0]) ∧ OwnB w' W.heap.size v' (valB k n s)) ∧ Below W.heap.size W w') ∨
  (mayB k n s = false ∧ e = .returned (.tuple #[.slice none 0 0, .int .i64 10]) ∧ Below W.heap.size W w')
theorem valEnd_yes {W w' : World} {k n : Int} {s : ByteArray} {v' : Value} (hm : mayB k n s = true) (ho : OwnB w' W.heap.size v' (valB k n s)) (hb : Below W.heap.size W w') : ValEnd W k n s (.returned (.tuple #[v', .int .i64 0])) w' := .inl ⟨hm, ⟨v', rfl, ho⟩, hb⟩
theorem valEnd_no {W w' : World} {k n : Int} {s : ByteArray} (hm : mayB k n s = false) (hb : Below W.heap.size W w') : ValEnd W k n s (.returned (.tuple #[.slice none 0 0, .int .i64 10])) w' := .inr ⟨hm, rfl, hb⟩

/-- What Number answers: eight cells of a new array. -/
def NumEnd (W : World) (n : Int) (e : Ending) (w' : World) : Prop := ∃ g, e = .returned (.slice (some ⟨g, 0, none⟩) 8 8) ∧ w'.heap[g]? = some (.cells (cellsL (numB n)).toArray 129 (0, 0)) ∧ W.heap.size ≤ g ∧ Below W.heap.size W w'
theorem numEnd_mk {W w' : World} {n : Int} {g : Nat} (h : w'.heap[g]? = some (.cells (cellsL (numB n)).toArray 129 (0, 0))) (hg : W.heap.size ≤ g) (hb : Below W.heap.size W w') : NumEnd W n (.returned (.slice (some ⟨g, 0, none⟩) 8 8)) w' := ⟨g, rfl, h, hg, hb⟩

end Go.Proofs.Ytkoknogefmfmnaa
