/-
  CONTRACT: the document's Same, of two lists of values that are equal.
-/
import Derived.Test.YtkoknogefmfmnaaVSl
import Derived.Laws.StructEq
import Derived.Deep.Draws
namespace Go.Proofs.Ytkoknogefmfmnaa
open Go.RowKit

theorem neVl (k n : Int) (s : ByteArray) (w : World) : (binOp .neq 24 (.agg #[.int .i64 k, .int .i64 n, .string s]) (.agg #[.int .i64 k, .int .i64 n, .string s])).run Try.prog w = .ok (.bool false) w := by
  have u3 := Try.underlying3
  have u2 := Try.underlying2
  have u9 := Try.underlying9
  have a3 := Try.isAgg3
  have a2 := Try.isAgg2
  have a9 := Try.isAgg9
  have hS : Try.prog.underlying 24 = some (.struct (Try.prog.fieldsOf 24)) := by kernel_rfl
  have hp : Try.prog.stoodInHeld 24 = false := by kernel_rfl
  rw [run_neq_struct, show (10000 : Nat) = 9999 + 1 from rfl, run_equalIn_agg w 9999 24 _ _ hS hp]
  simp only [Program.fieldsOf, Try.underlying24]
  go_simp

set_option maxRecDepth 100000 in
set_option maxHeartbeats 2000000 in
theorem sameV_any (A A' : Option Addr) (c c' : Nat) (l : List Vl) (w : World) (B : Nat) (hs : SlV w B A l) (hs' : SlV w B A' l) (hl : l.length ≤ 1048576) :
    Calls Try.prog 10 #[.slice A l.length c, .slice A' l.length c'] w fun e w' => e = .returned (.bool true) ∧ ∃ n, w' = w.drewN n := by
  go_enter Try.func10, Try.ntmps10
  go_wp2
  go_loopw [5] (fun i wr => ∃ j n : Nat, j ≤ l.length ∧ i = .int .i64 j ∧ wr = w.drewN n) (fun i _ => l.length - (intOf i).toNat)
  case atStart => exact ⟨0, 0, by omega, rfl, rfl⟩
  case round =>
    obtain ⟨j, n, hj, rfl, rfl⟩ := hrel
    by_cases h1 : j < l.length
    · have hji : (j : Int) < (l.length : Int) := by omega
      obtain ⟨b, o, rfl, _, hp⟩ := hs.at_ h1
      obtain ⟨b', o', rfl, _, hp'⟩ := hs'.at_ h1
      obtain ⟨⟨x, y, z⟩, hpe⟩ : ∃ p, l[j] = p := ⟨_, rfl⟩
      rw [hpe] at hp hp'
      have c0 := hp.c0
      have c1 := hp.c1
      have c2 := hp.c2
      have d0 := hp'.c0
      have d1 := hp'.c1
      have d2 := hp'.c2
      have hq := neVl x y z
      clear hp hp' hpe hs hs'
      go_wp2
      go_quiet (fail)
      go_wp2
      go_roundw
      case rel => exact ⟨j + 1, _, by omega, by go_num, rfl⟩
      case measure => simp [intOf]; omega
    · have hji : ¬ (j : Int) < (l.length : Int) := by omega
      go_wp2
      go_ret
      exact ⟨rfl, n, rfl⟩
end Go.Proofs.Ytkoknogefmfmnaa
