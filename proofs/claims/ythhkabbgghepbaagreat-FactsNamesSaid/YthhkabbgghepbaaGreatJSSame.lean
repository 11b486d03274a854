import Derived.Test.YthhkabbgghepbaaGreatJFFoldP
import Derived.Laws.StructEq
import Derived.Deep.Draws
import Derived.Test.YthhkabbgghepbaaGreatJSLeaf
/-
  PLAIN FACTS: the chapter's two datoms, folded.
-/
namespace Go.Proofs.YthhkabbgghepbaaGreat

theorem runsL_one {α κ : Type} [DecidableEq κ] (key : α → κ) (a : α) : runsL key [a] = [[a]] := by
  rw [runsL_step key (by simp), show runN key [a] = 1 from rfl]
  show [a] :: runsL key [] = _
  rw [runsL_nil]
theorem runsL_same {α κ : Type} [DecidableEq κ] (key : α → κ) (a b : α) (h : key b = key a) : runsL key [a, b] = [[a, b]] := by
  have hn : runN key [a, b] = 2 := by unfold runN; simp [h]
  rw [runsL_step key (by simp), hn]
  show [a, b] :: runsL key [] = _
  rw [runsL_nil]
theorem runsL_two {α κ : Type} [DecidableEq κ] (key : α → κ) (a b : α) (h : key b ≠ key a) : runsL key [a, b] = [[a], [b]] := by
  have hn : runN key [a, b] = 1 := by unfold runN; simp [h]
  rw [runsL_step key (by simp), hn]
  show [a] :: runsL key [b] = _
  rw [runsL_one]
def few1 : Dat := ⟨5, 10, 1, 1, ⟨#[]⟩, 1, true, 0, 10⟩
def few2 : Dat := ⟨5, 10, 1, 1, ⟨#[]⟩, 2, false, 4, 6⟩
theorem few_runs : runsL triD [few1, few2] = [[few1, few2]] := runsL_same _ _ _ rfl
theorem few_times : timesL [few1, few2] = [[few1], [few2]] := runsL_two _ _ _ (by decide)
theorem few_goes : Goes [few1, few2] := fun run hr once ho => by
  rw [few_runs, List.mem_singleton] at hr
  subst hr
  rw [few_times] at ho
  rintro ⟨t, h1, h2⟩
  rcases List.mem_cons.1 ho with rfl | ho
  · exact inn_nil t h2
  · rw [List.mem_singleton.1 ho] at h1
    exact inn_nil t h1
theorem few_held : HeldL [few1, few2] [(0, 4), (6, 10)] := by
  refine ⟨⟨by simp, by simp⟩, fun t => ?_⟩
  rw [few_times]
  have h1 : addsL [few1] = [(0, 10)] := rfl
  have h2 : cutsL [few1] = [] := rfl
  have h3 : addsL [few2] = [] := rfl
  have h4 : cutsL [few2] = [(4, 6)] := rfl
  simp only [List.map_cons, List.map_nil, turnR, h1, h2, h3, h4, inT, List.mem_singleton, forall_eq, inn_cons, inn_nil, or_false, List.not_mem_nil, false_implies, implies_true, and_true]
  omega
theorem few_to {fs : List FactP} (h : FoldsTo (runsL triD [few1, few2]) fs) : fs = [⟨5, 10, 1, 1, ⟨#[]⟩, [(0, 4), (6, 10)]⟩] := by
  rw [few_runs] at h
  have h' := foldsTo_snoc foldsTo_nil few_held
  exact foldsTo_one h h'
theorem datOk_sp {d : Dat} (h : DatOk d) : SpOk (spD d) := by
  have h1 := h.fr
  have h2 := h.til
  unfold i64B at h1 h2
  unfold SpOk spD minT maxT
  simp only
  omega
end Go.Proofs.YthhkabbgghepbaaGreat

/-
  CONTRACT: Same (of two lists of spans that are equal).
-/
namespace Go.Proofs.YthhkabbgghepbaaGreat
open Go.RowKit

theorem neSp (x y : Int) (w : World) : (binOp .neq 53 (.agg #[.int .i64 x, .int .i64 y]) (.agg #[.int .i64 x, .int .i64 y])).run Tryz.prog w = .ok (.bool false) w := by
  have u2 := Tryz.underlying2
  have a2 := Tryz.isAgg2
  have hS : Tryz.prog.underlying 53 = some (.struct (Tryz.prog.fieldsOf 53)) := by kernel_rfl
  have hp : Tryz.prog.stoodInHeld 53 = false := by kernel_rfl
  rw [run_neq_struct, show (10000 : Nat) = 9999 + 1 from rfl, run_equalIn_agg w 9999 53 _ _ hS hp]
  simp only [Program.fieldsOf, Tryz.underlying53]
  go_simp

set_option maxRecDepth 100000 in
set_option maxHeartbeats 2000000 in
theorem sameS_any (A A' : Option Addr) (c c' : Nat) (l : List Sp) (w : World) (B : Nat) (hs : SlS w B A l) (hs' : SlS w B A' l) (hl : l.length ≤ 1048576) :
    Calls Tryz.prog 46 #[.slice A l.length c, .slice A' l.length c'] w fun e w' => e = .returned (.bool true) ∧ ∃ n, w' = w.drewN n := by
  go_enter Tryz.func46, Tryz.ntmps46
  go_wp2
  go_loopw [5] (fun i wr => ∃ j n : Nat, j ≤ l.length ∧ i = .int .i64 j ∧ wr = w.drewN n) (fun i _ => l.length - (intOf i).toNat)
  case atStart => exact ⟨0, 0, by omega, rfl, rfl⟩
  case round =>
    obtain ⟨j, n, hj, rfl, rfl⟩ := hrel
    by_cases h1 : j < l.length
    · have hji : (j : Int) < (l.length : Int) := by omega
      obtain ⟨b, o, rfl, _, hp⟩ := hs.at_ h1
      obtain ⟨b', o', rfl, _, hp'⟩ := hs'.at_ h1
      obtain ⟨⟨x, y⟩, hpe⟩ : ∃ p, l[j] = p := ⟨_, rfl⟩
      rw [hpe] at hp hp'
      have c0 := hp.c0
      have c1 := hp.c1
      have d0 := hp'.c0
      have d1 := hp'.c1
      have hq := neSp x y
      clear hp hp' hpe hs hs'
      go_wp2
      go_quiet (fail)
      go_wp2
      go_roundw
      case rel => exact ⟨j + 1, _, by omega, by go_num, rfl⟩
      case measure => simp [intOf]; omega
    · have hji : ¬ (j : Int) < (l.length : Int) := by omega
      go_wp2
      go_ret
      exact ⟨rfl, n, rfl⟩
end Go.Proofs.YthhkabbgghepbaaGreat
