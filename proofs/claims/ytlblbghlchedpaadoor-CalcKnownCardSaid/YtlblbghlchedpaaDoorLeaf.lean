/-
  CONTRACTS of the smallest functions: one byte in, a bool out; three orders.
-/
import Derived.Test.YtlblbghlchedpaaDoorProg
import Derived.Test.YtlblbghlchedpaaDoorPure
import Derived.WalkKit
import Derived.WalkSpells
import Derived.WalkLawsBesides
namespace Go.Proofs.YtlblbghlchedpaaDoor
open Go.RowKit

theorem ret_bool {a b : Bool} (h : a = b) : Ending.returned (.bool a) = .returned (.bool b) := by rw [h]

set_option maxHeartbeats 400000 in
theorem isLetter_any (c : Int) (w : World) :
    Calls Tryd.prog 63 #[.int .u8 c] w fun e w' => e = .returned (.bool (lowI c)) ∧ w = w' := by
  by_cases h1 : 97 ≤ c
  · go_enter Tryd.func63, Tryd.ntmps63
    go_wp2
    go_ret
    exact ⟨ret_bool (by simp [lowI] <;> omega), rfl⟩
  · go_enter Tryd.func63, Tryd.ntmps63
    go_wp2
    go_ret
    exact ⟨ret_bool (by simp [lowI] <;> omega), rfl⟩

set_option maxHeartbeats 400000 in
theorem lower_any (c : Int) (w : World) :
    Calls Tryd.prog 60 #[.int .u8 c] w fun e w' => e = .returned (.bool (lowI c)) ∧ w = w' := by
  by_cases h1 : 97 ≤ c
  · go_enter Tryd.func60, Tryd.ntmps60
    go_wp2
    go_ret
    exact ⟨ret_bool (by simp [lowI] <;> omega), rfl⟩
  · go_enter Tryd.func60, Tryd.ntmps60
    go_wp2
    go_ret
    exact ⟨ret_bool (by simp [lowI] <;> omega), rfl⟩

set_option maxHeartbeats 400000 in
theorem digit_any (c : Int) (w : World) :
    Calls Tryd.prog 61 #[.int .u8 c] w fun e w' => e = .returned (.bool (digI c)) ∧ w = w' := by
  by_cases h1 : 48 ≤ c
  · go_enter Tryd.func61, Tryd.ntmps61
    go_wp2
    go_ret
    exact ⟨ret_bool (by simp [digI] <;> omega), rfl⟩
  · go_enter Tryd.func61, Tryd.ntmps61
    go_wp2
    go_ret
    exact ⟨ret_bool (by simp [digI] <;> omega), rfl⟩

set_option maxHeartbeats 800000 in
theorem inWord_any (c : Int) (w : World) :
    Calls Tryd.prog 64 #[.int .u8 c] w fun e w' => e = .returned (.bool (inwI c)) ∧ w = w' := by
  go_enter Tryd.func64, Tryd.ntmps64
  go_wp2_with (go_at_call 63; refine (isLetter_any _ _).mono ?_; rintro e w' ⟨rfl, rfl⟩)
  all_goals go_ret
  all_goals exact ⟨ret_bool (by simp [inwI, digI, *] <;> omega), rfl⟩

theorem ret_i64 {a b : Int} (h : a = b) : Ending.returned (.int .i64 a) = .returned (.int .i64 b) := by rw [h]

set_option maxHeartbeats 400000 in
theorem cmpInt_any (a b : Int) (w : World) :
    Calls Tryd.prog 44 #[.int .i64 a, .int .i64 b] w fun e w' => e = .returned (.int .i64 (ordI a b)) ∧ w = w' := by
  go_enter Tryd.func44, Tryd.ntmps44
  go_wp2
  all_goals go_ret
  all_goals exact ⟨ret_i64 (by unfold ordI; split <;> (try split) <;> omega), rfl⟩

set_option maxHeartbeats 400000 in
theorem cmpI64_any (a b : Int) (w : World) :
    Calls Tryd.prog 45 #[.int .i64 a, .int .i64 b] w fun e w' => e = .returned (.int .i64 (ordI a b)) ∧ w = w' := by
  go_enter Tryd.func45, Tryd.ntmps45
  go_wp2
  all_goals go_ret
  all_goals exact ⟨ret_i64 (by unfold ordI; split <;> (try split) <;> omega), rfl⟩

theorem ordS_lt {a b : ByteArray} (h : Op.bytesLess a.toList b.toList = true) : ordS a b = -1 := by
  rw [ByteArray.toList_eq, ByteArray.toList_eq] at h; exact (less_ord _ _).1 h
theorem ordS_gt {a b : ByteArray} (h : Op.bytesLess a.toList b.toList = false) (h' : (!a.toList == b.toList) = true) : ordS a b = 1 := by
  rw [ByteArray.toList_eq, ByteArray.toList_eq] at h h'; exact (less_ord _ _).2.1 h (by simpa using h')
theorem ordS_eq {a b : ByteArray} (h' : (!a.toList == b.toList) = false) : ordS a b = 0 := by
  rw [ByteArray.toList_eq, ByteArray.toList_eq] at h'; exact (less_ord _ _).2.2 (by simpa using h')

set_option maxHeartbeats 400000 in
theorem cmpStr_any (a b : ByteArray) (w : World) :
    Calls Tryd.prog 46 #[.string a, .string b] w fun e w' => e = .returned (.int .i64 (ordS a b)) ∧ w = w' := by
  go_enter Tryd.func46, Tryd.ntmps46
  go_wp2
  all_goals go_ret
  · exact ⟨ret_i64 (by rw [ordS_lt ‹_›]), rfl⟩
  · exact ⟨ret_i64 (by rw [ordS_gt ‹_› ‹_›]), rfl⟩
  · exact ⟨ret_i64 (by rw [ordS_eq ‹_›]), rfl⟩

end Go.Proofs.YtlblbghlchedpaaDoor
