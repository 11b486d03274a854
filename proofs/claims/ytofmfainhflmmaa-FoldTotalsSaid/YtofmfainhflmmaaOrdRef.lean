/-
  CONTRACTS: how two values stand (the document's).
-/
import Derived.Test.YtofmfainhflmmaaOrd
namespace Go.Proofs.Ytofmfainhflmmaa
open Go.RowKit

theorem below_dn {B : Nat} {a w : World} (h : Below B a w) (n : Nat) : Below B a (w.drewN n) := ⟨h.os, h.tape, h.output, h.size, h.block⟩

/-- how two texts stand from a place on -/
def ordAt (s s' : ByteArray) (k : Nat) : Int := ordL (s.data.toList.drop k) (s'.data.toList.drop k)
theorem ordAt_zero (s s' : ByteArray) : ordAt s s' 0 = ordS s s' := by simp [ordAt, ordS]
theorem ordAt_lt {s s' : ByteArray} {k : Nat} (h : k < s.size) (h' : k < s'.size) (hc : (s[k].toNat : Int) < s'[k].toNat) : ordAt s s' k = -1 := by
  unfold ordAt; rw [drop_at s k h, drop_at s' k h']; unfold ordL; rw [if_pos (by omega)]
theorem ordAt_gt {s s' : ByteArray} {k : Nat} (h : k < s.size) (h' : k < s'.size) (hc : (s'[k].toNat : Int) < s[k].toNat) : ordAt s s' k = 1 := by
  unfold ordAt; rw [drop_at s k h, drop_at s' k h']; unfold ordL; rw [if_neg (by omega), if_pos (by omega)]
theorem ordAt_eq {s s' : ByteArray} {k : Nat} (h : k < s.size) (h' : k < s'.size) (h1 : (s[k].toNat : Int) = s'[k].toNat) : ordAt s s' k = ordAt s s' (k + 1) := by
  unfold ordAt; rw [drop_at s k h, drop_at s' k h']
  have : ordL (s[k] :: s.data.toList.drop (k + 1)) (s'[k] :: s'.data.toList.drop (k + 1)) = if s[k].toNat < s'[k].toNat then -1 else if s'[k].toNat < s[k].toNat then 1 else ordL (s.data.toList.drop (k + 1)) (s'.data.toList.drop (k + 1)) := rfl
  rw [this, if_neg (by omega), if_neg (by omega)]
theorem ordAt_end {s s' : ByteArray} {k : Nat} (h : k ≤ s.size) (h' : k ≤ s'.size) (he : k = s.size ∨ k = s'.size) :
    ordAt s s' k = if s.size < s'.size then -1 else if s'.size < s.size then 1 else 0 := by
  unfold ordAt
  rcases he with rfl | rfl
  · rw [drop_end s _ (Nat.le_refl _)]
    by_cases h2 : s.size < s'.size
    · rw [drop_at s' _ h2, if_pos h2]; rfl
    · rw [drop_end s' _ (by omega), if_neg h2, if_neg (by omega)]; rfl
  · rw [drop_end s' _ (Nat.le_refl _)]
    by_cases h2 : s'.size < s.size
    · rw [drop_at s _ h2, if_neg (by omega), if_pos h2]; rfl
    · rw [drop_end s _ (by omega), if_neg (by omega), if_neg h2]; rfl

theorem ord_a {k n k' n' : Int} {s s' : ByteArray} (h : k < k') : -1 = ordV k n s k' n' s' := by
  have e : ordI k k' = -1 := by unfold ordI; rw [if_pos h]
  unfold ordV; rw [if_neg (by omega), e]
theorem ord_b {k n k' n' : Int} {s s' : ByteArray} (h : k' < k) : 1 = ordV k n s k' n' s' := by
  have e : ordI k k' = 1 := by unfold ordI; rw [if_neg (by omega), if_pos h]
  unfold ordV; rw [if_neg (by omega), e]
theorem ord_c {k n n' : Int} {s s' : ByteArray} (h : n < n') : -1 = ordV k n s k n' s' := by
  have e : ordI n n' = -1 := by unfold ordI; rw [if_pos h]
  unfold ordV; rw [if_pos (ordI_zero.2 rfl), if_neg (by omega), e]
theorem ord_d {k n n' : Int} {s s' : ByteArray} (h : n' < n) : 1 = ordV k n s k n' s' := by
  have e : ordI n n' = 1 := by unfold ordI; rw [if_neg (by omega), if_pos h]
  unfold ordV; rw [if_pos (ordI_zero.2 rfl), if_neg (by omega), e]
theorem ord_e {k n : Int} {s s' : ByteArray} : ordV k n s k n s' = ordS s s' := by
  unfold ordV; rw [if_pos (ordI_zero.2 rfl), if_pos (ordI_zero.2 rfl)]

set_option maxHeartbeats 1000000 in
theorem refCompare_e (k n : Int) (s : ByteArray) (s' : ByteArray) (w : World) (hs : s.size ≤ maxLen) (hs' : s'.size ≤ maxLen) :
    Calls Try.prog 89 #[.agg #[.int .i64 k, .int .i64 n, .string s], .agg #[.int .i64 k, .int .i64 n, .string s']] w fun e w' => e = .returned (.int .i64 (ordS s s')) ∧ Below w.heap.size w w' := by
  unfold maxLen at hs hs'
  go_enter Try.func89, Try.ntmps89
  go_wp2
  go_loopw [5] (fun i wr => ∃ j : Nat, j ≤ s.size ∧ j ≤ s'.size ∧ i = .int .i64 j ∧ Hid (ordAt s s' j = ordS s s') ∧ Below w.heap.size w wr ∧ wr.heap.size = w.heap.size + 2 ∧ wr.cell? ⟨w.heap.size, 2, none⟩ = some (.string s) ∧ wr.cell? ⟨w.heap.size + 1, 2, none⟩ = some (.string s')) (fun i _ => s.size - (intOf i).toNat)
  case atStart => exact ⟨0, by omega, by omega, rfl, ordAt_zero s s', ((Below.refl _ _).alloc (Nat.le_refl _) _).alloc (by simp) _, by simp, by go_simp, by go_simp⟩
  case round =>
    obtain ⟨j, hj, hj', rfl, HJ, hB, hz, hc, hc'⟩ := hrel
    by_cases h1 : j < s.size
    · by_cases h2 : j < s'.size
      · by_cases h3 : (s[j].toNat : Int) < (s'[j].toNat : Int)
        · have HF : Hid (ordAt s s' j = -1) := ordAt_lt h1 h2 h3
          go_wp2
          go_quiet (fail)
          go_wp2
          go_ret
          exact ⟨ret_i64 (by rw [← HJ.out, HF.out]), by first | exact below_dn (below_dn hB _) _ | exact below_dn hB _⟩
        · by_cases h4 : (s'[j].toNat : Int) < (s[j].toNat : Int)
          · have HF : Hid (ordAt s s' j = 1) := ordAt_gt h1 h2 h4
            go_wp2
            go_quiet (fail)
            go_wp2
            go_quiet (fail)
            go_wp2
            go_ret
            exact ⟨ret_i64 (by rw [← HJ.out, HF.out]), by first | exact below_dn (below_dn hB _) _ | exact below_dn hB _⟩
          · have HF : Hid (ordAt s s' j = ordAt s s' (j + 1)) := ordAt_eq h1 h2 (by omega)
            go_wp2
            go_quiet (fail)
            go_wp2
            go_quiet (fail)
            go_wp2
            go_roundw
            case rel => exact ⟨j + 1, by omega, by omega, by go_num, by rw [← HJ.out, HF.out]; rfl, by first | exact below_dn (below_dn hB _) _ | exact below_dn hB _, by simpa using hz, by simpa using hc, by simpa using hc'⟩
            case measure => simp [intOf]; omega
      · have HF : Hid (ordAt s s' j = if s.size < s'.size then -1 else if s'.size < s.size then 1 else 0) := ordAt_end hj hj' (.inr (by omega))
        have h5 : ¬ (s.size : Int) < (s'.size : Int) := by omega
        have h6 : (s'.size : Int) < (s.size : Int) := by omega
        go_wp2
        go_ret
        exact ⟨ret_i64 (by rw [← HJ.out, HF.out, if_neg (by omega), if_pos (by omega)]), hB⟩
    · have HF : Hid (ordAt s s' j = if s.size < s'.size then -1 else if s'.size < s.size then 1 else 0) := ordAt_end hj hj' (.inl (by omega))
      by_cases h5 : (s.size : Int) < (s'.size : Int)
      · go_wp2
        go_ret
        exact ⟨ret_i64 (by rw [← HJ.out, HF.out, if_pos (by omega)]), hB⟩
      · have h6 : ¬ (s'.size : Int) < (s.size : Int) := by omega
        go_wp2
        go_ret
        exact ⟨ret_i64 (by rw [← HJ.out, HF.out, if_neg (by omega), if_neg (by omega)]), hB⟩

set_option maxHeartbeats 1000000 in
theorem refCompare_any (k n : Int) (s : ByteArray) (k' n' : Int) (s' : ByteArray) (w : World) (hs : s.size ≤ maxLen) (hs' : s'.size ≤ maxLen) :
    Calls Try.prog 89 #[.agg #[.int .i64 k, .int .i64 n, .string s], .agg #[.int .i64 k', .int .i64 n', .string s']] w fun e w' => e = .returned (.int .i64 (ordV k n s k' n' s')) ∧ Below w.heap.size w w' := by
  by_cases h1 : k < k'
  · go_enter Try.func89, Try.ntmps89
    go_wp2
    go_ret
    exact ⟨ret_i64 (ord_a h1), ((Below.refl _ _).alloc (Nat.le_refl _) _).alloc (by simp) _⟩
  · by_cases h2 : k' < k
    · go_enter Try.func89, Try.ntmps89
      go_wp2
      go_ret
      exact ⟨ret_i64 (ord_b h2), ((Below.refl _ _).alloc (Nat.le_refl _) _).alloc (by simp) _⟩
    · obtain rfl : k = k' := by omega
      by_cases h3 : n < n'
      · go_enter Try.func89, Try.ntmps89
        go_wp2
        go_ret
        exact ⟨ret_i64 (ord_c h3), ((Below.refl _ _).alloc (Nat.le_refl _) _).alloc (by simp) _⟩
      · by_cases h4 : n' < n
        · go_enter Try.func89, Try.ntmps89
          go_wp2
          go_ret
          exact ⟨ret_i64 (ord_d h4), ((Below.refl _ _).alloc (Nat.le_refl _) _).alloc (by simp) _⟩
        · obtain rfl : n = n' := by omega
          rw [ord_e]
          exact refCompare_e k n s s' w hs hs'

end Go.Proofs.Ytofmfainhflmmaa
