/-
  CONTRACTS: eight (a number's bytes in an array).
-/
import Derived.Test.YthdjlaombbeagaaOPure
import Derived.Test.YthdjlaombbeagaaLeaf
import Derived.Lib.Hide
import Derived.LoopTactic
import Derived.Deep.LoopGhost
import Derived.Laws.BitsAllLaws
import Derived.OwnWalk
namespace Go.Proofs.Ythdjlaombbeagaa
open Go.RowKit

theorem xor63 (a : Nat) (ha : a < 18446744073709551616) : a ^^^ 9223372036854775808 = if a < 9223372036854775808 then a + 9223372036854775808 else a - 9223372036854775808 := by
  have h1 := Nat.xor_mod_two_pow (a := a) (b := 9223372036854775808) (n := 63)
  have h2 := Nat.xor_div_two_pow (a := a) (b := 9223372036854775808) (n := 63)
  have e : (2 : Nat) ^ 63 = 9223372036854775808 := by decide
  rw [e] at h1 h2
  rw [Nat.mod_self, Nat.xor_zero] at h1
  rw [Nat.div_self (by decide)] at h2
  have h3 : a / 9223372036854775808 = 0 ∨ a / 9223372036854775808 = 1 := by omega
  rcases h3 with h3 | h3
  · rw [h3] at h2
    have : (0 : Nat) ^^^ 1 = 1 := rfl
    rw [this] at h2
    split <;> omega
  · rw [h3] at h2
    have : (1 : Nat) ^^^ 1 = 0 := rfl
    rw [this] at h2
    split <;> omega
theorem turn_lt {n : Int} (h1 : n ≤ 9223372036854775807) : turnN n < 18446744073709551616 := by unfold turnN; omega
theorem turned {n : Int} (h0 : -9223372036854775808 ≤ n) (h1 : n ≤ 9223372036854775807) : bits .xor .u64 (IntKind.u64.wrap n) 9223372036854775808 = ((turnN n : Nat) : Int) := by
  have hw : IntKind.u64.wrap n = ((n % 18446744073709551616).toNat : Int) := by
    rw [IntKind.wrap_u64]; omega
  rw [hw, show (9223372036854775808 : Int) = ((9223372036854775808 : Nat) : Int) from rfl, u64_xor_nat _ _ (by omega) (by decide), xor63 _ (by omega)]
  unfold turnN
  split <;> omega

/-- the eight cells behind i rounds -/
def eightC (T i : Nat) : Array Value := (((be8 T).take i).map (fun c : UInt8 => Value.int .u8 c.toNat) ++ List.replicate (8 - i) (Value.int .u8 0)).toArray

theorem results_cell_only {fn : Func} {p : Tmp} {ty : TypeId} (h : fn.results = #[.cell p ty]) (tmps : Array Value) (P : Program) (w : World) :
    (results fn tmps).run P w = ((asAddr (tmps.getD p undef)).run P w).andThen fun a w₁ => (loadVar ty a).run P w₁ := by
  simp only [results, h]
  simp [Sem.run_bind]

end Go.Proofs.Ythdjlaombbeagaa
