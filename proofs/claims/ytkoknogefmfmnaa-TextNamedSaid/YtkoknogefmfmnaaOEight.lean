/-
  CONTRACTS: eight (a number's bytes in an array).
-/
import Derived.Test.YtkoknogefmfmnaaOPure
import Derived.Test.YtkoknogefmfmnaaLeaf
import Derived.Lib.Hide
import Derived.LoopTactic
import Derived.Deep.LoopGhost
import Derived.Laws.BitsAllLaws
import Derived.OwnWalk
namespace Go.Proofs.Ytkoknogefmfmnaa
open Go.RowKit

theorem xor63 (a : Nat) (ha : a < 18446744073709551616) : a ^^^ 9223372036854775808 = if a < 9223372036854775808 then a + 9223372036854775808 else a - 9223372036854775808 := by
  have h1 := Nat.xor_mod_two_pow (a := a) (b := 9223372036854775808) (n := 63)
  have h2 := Nat.xor_div_two_pow (a := a) (b := 9223372036854775808) (n := 63)
  have e : (2 : Nat) ^ 63 = 9223372036854775808 := by decide
  rw [e] at h1 h2
  rw [Nat.mod_self, Nat.xor_zero] at h1
  rw [Nat.div_self (by decide)] at h2
  have h3 : a / 9223372036854775808 = 0 ∨ a / 9223372036854775808 = 1 := by omega
  rcases h3 with h3 | h3
  · rw [h3] at h2
    have : (0 : Nat) ^^^ 1 = 1 := rfl
    rw [this] at h2
    split <;> omega
  · rw [h3] at h2
    have : (1 : Nat) ^^^ 1 = 0 := rfl
    rw [this] at h2
    split <;> omega
theorem turn_lt {n : Int} (h1 : n ≤ 9223372036854775807) : turnN n < 18446744073709551616 := by unfold turnN; omega
theorem turned {n : Int} (h0 : -9223372036854775808 ≤ n) (h1 : n ≤ 9223372036854775807) : bits .xor .u64 (IntKind.u64.wrap n) 9223372036854775808 = ((turnN n : Nat) : Int) := by
  have hw : IntKind.u64.wrap n = ((n % 18446744073709551616).toNat : Int) := by
    rw [IntKind.wrap_u64]; omega
  rw [hw, show (9223372036854775808 : Int) = ((9223372036854775808 : Nat) : Int) from rfl, u64_xor_nat _ _ (by omega) (by decide), xor63 _ (by omega)]
  unfold turnN
  split <;> omega

/-- the eight cells behind i rounds -/
def eightC (T i : Nat) : Array Value := (((be8 T).take i).map (fun c : UInt8 => Value.int .u8 c.toNat) ++ List.replicate (8 - i) (Value.int .u8 0)).toArray

theorem results_cell_only {fn : Func} {p : Tmp} {ty : TypeId} (h : fn.results = #[.cell p ty]) (tmps : Array Value) (P : Program) (w : World) :
    (results fn tmps).run P w = ((asAddr (tmps.getD p undef)).run P w).andThen fun a w₁ => (loadVar ty a).run P w₁ := by
  simp only [results, h]
  simp [Sem.run_bind]

theorem eight_step (T : Nat) (W0 : World) (i : Nat) (hi : i < 8) (x : Int) (hx : x = ((be8 T)[i]'(by rw [be8_len]; exact hi)).toNat) :
    Hid (W0.alloc (.cells ((eightC T i).setIfInBounds i (.int .u8 x)) 129) = W0.alloc (.cells (eightC T (i + 1)) 129)) := by
  show _ = _
  subst hx
  match i, hi with
  | 0, _ => rfl
  | 1, _ => rfl
  | 2, _ => rfl
  | 3, _ => rfl
  | 4, _ => rfl
  | 5, _ => rfl
  | 6, _ => rfl
  | 7, _ => rfl

set_option maxRecDepth 100000 in
set_option maxHeartbeats 4000000 in
theorem eight_any (n : Int) (h0 : -9223372036854775808 ≤ n) (h1 : n ≤ 9223372036854775807) (w : World) :
    Calls Try.prog 95 #[.int .i64 n] w fun e w' => e = .returned (.agg ((numB n).map (fun c : UInt8 => Value.int .u8 c.toNat)).toArray) ∧ Below w.heap.size w w' := by
  have ht := turned h0 h1
  obtain ⟨T, hT⟩ : ∃ T, turnN n = T := ⟨_, rfl⟩
  have hlt : T < 18446744073709551616 := by rw [← hT]; exact turn_lt h1
  rw [hT] at ht
  have HN : Hid (numB n = be8 T) := by show _ = _; unfold numB; rw [hT]
  clear hT
  go_enter Try.func95, Try.ntmps95
  go_wp2
  clear ht
  obtain ⟨W0, hW0⟩ : ∃ W0, (w.alloc (Obj.cells #[Value.int .u8 0, Value.int .u8 0, Value.int .u8 0, Value.int .u8 0, Value.int .u8 0, Value.int .u8 0, Value.int .u8 0, Value.int .u8 0] 129)) = W0 := ⟨_, rfl⟩
  have hz0 : W0.heap.size = w.heap.size + 1 := by rw [← hW0]; simp
  go_loopg [9] 8 (fun g x wr => ∃ i : Nat, x = .int .i64 i ∧ i + g = 8 ∧ Hid (wr = W0.alloc (.cells (eightC T i) 129)))
  case atStart => exact ⟨0, rfl, rfl, by show _ = _; rw [← hW0]; rfl⟩
  case round =>
    obtain ⟨i, rfl, hi, HW⟩ := hrel
    have h9 : i = 0 ∨ i = 1 ∨ i = 2 ∨ i = 3 ∨ i = 4 ∨ i = 5 ∨ i = 6 ∨ i = 7 ∨ i = 8 := by omega
    have hw := HW.out
    subst hw
    have HW0 := Lib.hid hW0
    clear hW0 HW
    rcases h9 with rfl | rfl | rfl | rfl | rfl | rfl | rfl | rfl | rfl
    · go_wp2
      go_roundg 7
      case measure => omega
      case rel => exact ⟨1, rfl, by omega, eight_step T W0 0 (by decide) _ (by simp only [be8, List.getElem_cons_zero, byteN]; omega)⟩
    · go_wp2
      go_roundg 6
      case measure => omega
      case rel => exact ⟨2, rfl, by omega, eight_step T W0 1 (by decide) _ (by simp only [be8, List.getElem_cons_zero, List.getElem_cons_succ, byteN]; omega)⟩
    · go_wp2
      go_roundg 5
      case measure => omega
      case rel => exact ⟨3, rfl, by omega, eight_step T W0 2 (by decide) _ (by simp only [be8, List.getElem_cons_zero, List.getElem_cons_succ, byteN]; omega)⟩
    · go_wp2
      go_roundg 4
      case measure => omega
      case rel => exact ⟨4, rfl, by omega, eight_step T W0 3 (by decide) _ (by simp only [be8, List.getElem_cons_zero, List.getElem_cons_succ, byteN]; omega)⟩
    · go_wp2
      go_roundg 3
      case measure => omega
      case rel => exact ⟨5, rfl, by omega, eight_step T W0 4 (by decide) _ (by simp only [be8, List.getElem_cons_zero, List.getElem_cons_succ, byteN]; omega)⟩
    · go_wp2
      go_roundg 2
      case measure => omega
      case rel => exact ⟨6, rfl, by omega, eight_step T W0 5 (by decide) _ (by simp only [be8, List.getElem_cons_zero, List.getElem_cons_succ, byteN]; omega)⟩
    · go_wp2
      go_roundg 1
      case measure => omega
      case rel => exact ⟨7, rfl, by omega, eight_step T W0 6 (by decide) _ (by simp only [be8, List.getElem_cons_zero, List.getElem_cons_succ, byteN]; omega)⟩
    · go_wp2
      go_roundg 0
      case measure => omega
      case rel => exact ⟨8, rfl, by omega, eight_step T W0 7 (by decide) _ (by simp only [be8, List.getElem_cons_zero, List.getElem_cons_succ, byteN]; omega)⟩
    · have h8 : eightC T 8 = #[.int .u8 (UInt8.ofNat (T / 72057594037927936)).toNat, .int .u8 (UInt8.ofNat (T / 281474976710656)).toNat, .int .u8 (UInt8.ofNat (T / 1099511627776)).toNat, .int .u8 (UInt8.ofNat (T / 4294967296)).toNat, .int .u8 (UInt8.ofNat (T / 16777216)).toNat, .int .u8 (UInt8.ofNat (T / 65536)).toNat, .int .u8 (UInt8.ofNat (T / 256)).toNat, .int .u8 (UInt8.ofNat T).toNat] := rfl
      rw [h8]
      have hw0 := HW0.out
      subst hw0
      have H8 := Lib.hid h8
      clear h8 HW0 hz0
      go_wp2
      refine bodyPost_ret (v := .agg ((numB n).map (fun c : UInt8 => Value.int .u8 c.toNat)).toArray) ?_ rfl ⟨rfl, ?_⟩
      · rw [results_cell_only rfl]
        go_simp
        rw [HN.out]
        simp [be8]
      · exact ((Below.refl _ _).alloc (Nat.le_refl _) _).alloc (by simp) _
end Go.Proofs.Ytkoknogefmfmnaa
