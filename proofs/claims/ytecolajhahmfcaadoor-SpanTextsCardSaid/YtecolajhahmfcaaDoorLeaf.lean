/-
  CONTRACTS of the smallest functions: one byte in, a bool out; three orders.
-/
import Derived.Test.YtecolajhahmfcaaDoorProg
import Derived.Test.YtecolajhahmfcaaDoorPure
import Derived.WalkKit
import Derived.WalkSpells
import Derived.WalkLawsBesides
namespace Go.Proofs.YtecolajhahmfcaaDoor
open Go.RowKit

theorem ret_bool {a b : Bool} (h : a = b) : Ending.returned (.bool a) = .returned (.bool b) := by rw [h]

set_option maxHeartbeats 400000 in
theorem digit_any (c : Int) (w : World) :
    Calls Tryd.prog 41 #[.int .u8 c] w fun e w' => e = .returned (.bool (digI c)) ∧ w = w' := by
  by_cases h1 : 48 ≤ c
  · go_enter Tryd.func41, Tryd.ntmps41
    go_wp2
    go_ret
    exact ⟨ret_bool (by simp [digI] <;> omega), rfl⟩
  · go_enter Tryd.func41, Tryd.ntmps41
    go_wp2
    go_ret
    exact ⟨ret_bool (by simp [digI] <;> omega), rfl⟩

theorem ret_i64 {a b : Int} (h : a = b) : Ending.returned (.int .i64 a) = .returned (.int .i64 b) := by rw [h]

set_option maxHeartbeats 400000 in
theorem cmpI64_any (a b : Int) (w : World) :
    Calls Tryd.prog 31 #[.int .i64 a, .int .i64 b] w fun e w' => e = .returned (.int .i64 (ordI a b)) ∧ w = w' := by
  go_enter Tryd.func31, Tryd.ntmps31
  go_wp2
  all_goals go_ret
  all_goals exact ⟨ret_i64 (by unfold ordI; split <;> (try split) <;> omega), rfl⟩

theorem ordS_lt {a b : ByteArray} (h : Op.bytesLess a.toList b.toList = true) : ordS a b = -1 := by
  rw [ByteArray.toList_eq, ByteArray.toList_eq] at h; exact (less_ord _ _).1 h
theorem ordS_gt {a b : ByteArray} (h : Op.bytesLess a.toList b.toList = false) (h' : (!a.toList == b.toList) = true) : ordS a b = 1 := by
  rw [ByteArray.toList_eq, ByteArray.toList_eq] at h h'; exact (less_ord _ _).2.1 h (by simpa using h')
theorem ordS_eq {a b : ByteArray} (h' : (!a.toList == b.toList) = false) : ordS a b = 0 := by
  rw [ByteArray.toList_eq, ByteArray.toList_eq] at h'; exact (less_ord _ _).2.2 (by simpa using h')

end Go.Proofs.YtecolajhahmfcaaDoor
