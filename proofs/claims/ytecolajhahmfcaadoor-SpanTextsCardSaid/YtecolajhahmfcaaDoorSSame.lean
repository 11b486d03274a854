/-
  CONTRACT: Same (of two lists of spans that are equal).
-/
import Derived.Test.YtecolajhahmfcaaDoorSLeaf
import Derived.Laws.StructEq
import Derived.Deep.Draws
namespace Go.Proofs.YtecolajhahmfcaaDoor
open Go.RowKit

theorem neSp (x y : Int) (w : World) : (binOp .neq 38 (.agg #[.int .i64 x, .int .i64 y]) (.agg #[.int .i64 x, .int .i64 y])).run Tryd.prog w = .ok (.bool false) w := by
  have u2 := Tryd.underlying2
  have a2 := Tryd.isAgg2
  have hS : Tryd.prog.underlying 38 = some (.struct (Tryd.prog.fieldsOf 38)) := by kernel_rfl
  have hp : Tryd.prog.stoodInHeld 38 = false := by kernel_rfl
  rw [run_neq_struct, show (10000 : Nat) = 9999 + 1 from rfl, run_equalIn_agg w 9999 38 _ _ hS hp]
  simp only [Program.fieldsOf, Tryd.underlying38]
  go_simp

set_option maxRecDepth 100000 in
set_option maxHeartbeats 2000000 in
theorem sameS_any (A A' : Option Addr) (c c' : Nat) (l : List Sp) (w : World) (B : Nat) (hs : SlS w B A l) (hs' : SlS w B A' l) (hl : l.length ≤ 1048576) :
    Calls Tryd.prog 9 #[.slice A l.length c, .slice A' l.length c'] w fun e w' => e = .returned (.bool true) ∧ ∃ n, w' = w.drewN n := by
  go_enter Tryd.func9, Tryd.ntmps9
  go_wp2
  go_loopw [5] (fun i wr => ∃ j n : Nat, j ≤ l.length ∧ i = .int .i64 j ∧ wr = w.drewN n) (fun i _ => l.length - (intOf i).toNat)
  case atStart => exact ⟨0, 0, by omega, rfl, rfl⟩
  case round =>
    obtain ⟨j, n, hj, rfl, rfl⟩ := hrel
    by_cases h1 : j < l.length
    · have hji : (j : Int) < (l.length : Int) := by omega
      obtain ⟨b, o, rfl, _, hp⟩ := hs.at_ h1
      obtain ⟨b', o', rfl, _, hp'⟩ := hs'.at_ h1
      obtain ⟨⟨x, y⟩, hpe⟩ : ∃ p, l[j] = p := ⟨_, rfl⟩
      rw [hpe] at hp hp'
      have c0 := hp.c0
      have c1 := hp.c1
      have d0 := hp'.c0
      have d1 := hp'.c1
      have hq := neSp x y
      clear hp hp' hpe hs hs'
      go_wp2
      go_quiet (fail)
      go_wp2
      go_roundw
      case rel => exact ⟨j + 1, _, by omega, by go_num, rfl⟩
      case measure => simp [intOf]; omega
    · have hji : ¬ (j : Int) < (l.length : Int) := by omega
      go_wp2
      go_ret
      exact ⟨rfl, n, rfl⟩
end Go.Proofs.YtecolajhahmfcaaDoor
