/-
  CONTRACTS: how two values stand (the program's).
-/
import Derived.Test.YtofmfainhflmmaaLeaf
import Derived.Lib.Hide
import Derived.RegionTactic
import Derived.ChangeAlike
import Derived.Deep.QuietTactic
import Derived.BigQuiet
namespace Go.Proofs.Ytofmfainhflmmaa
open Go.RowKit

theorem v1 {k n k' n' : Int} {s s' : ByteArray} (h : (ordI k k' != 0) = true) : ordI k k' = ordV k n s k' n' s' := by
  have h' : ¬ ordI k k' = 0 := by simpa using h
  unfold ordV; rw [if_neg h']
theorem v2 {k n k' n' : Int} {s s' : ByteArray} (h : (ordI k k' != 0) = false) (h2 : (ordI n n' != 0) = true) : ordI n n' = ordV k n s k' n' s' := by
  have h' : ordI k k' = 0 := by simpa using h
  have h2' : ¬ ordI n n' = 0 := by simpa using h2
  unfold ordV; rw [if_pos h', if_neg h2']
theorem v3 {k n k' n' : Int} {s s' : ByteArray} (h : (ordI k k' != 0) = false) (h2 : (ordI n n' != 0) = false) : ordS s s' = ordV k n s k' n' s' := by
  have h' : ordI k k' = 0 := by simpa using h
  have h2' : ordI n n' = 0 := by simpa using h2
  unfold ordV; rw [if_pos h', if_pos h2']

set_option maxHeartbeats 400000 in
theorem compare_any (k n : Int) (s : ByteArray) (k' n' : Int) (s' : ByteArray) (w : World) :
    Calls Try.prog 80 #[.agg #[.int .i64 k, .int .i64 n, .string s], .agg #[.int .i64 k', .int .i64 n', .string s']] w fun e w' => e = .returned (.int .i64 (ordV k n s k' n' s')) ∧ Below w.heap.size w w' := by
  go_enter Try.func80, Try.ntmps80
  go_wp2_with (first | (go_at_call 111; refine (cmpInt_any _ _ _).mono ?_; rintro e w' ⟨rfl, rfl⟩) | (go_at_call 112; refine (cmpI64_any _ _ _).mono ?_; rintro e w' ⟨rfl, rfl⟩) | (go_at_call 113; refine (cmpStr_any _ _ _).mono ?_; rintro e w' ⟨rfl, rfl⟩))
  all_goals go_ret
  all_goals refine ⟨ret_i64 ?_, ((Below.refl _ _).alloc (Nat.le_refl _) _).alloc (by simp) _⟩
  · exact v1 ‹_›
  · exact v2 ‹_› ‹_›
  · exact v3 ‹_› ‹_›

end Go.Proofs.Ytofmfainhflmmaa
