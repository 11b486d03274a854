/-
  CONTRACT: the document's Placed, of two lists of nodes that are equal.
-/
import Derived.Deep.Draws
import Derived.BigQuiet
import Derived.Test.YthbighnkohjfnaaGreatDoorJTNd
namespace Go.Proofs.YthbighnkohjfnaaGreatDoor
open Go.RowKit

theorem neV (k n : Int) (s : ByteArray) (w : World) : (binOp .neq 35 (.agg #[.int .i64 k, .int .i64 n, .string s]) (.agg #[.int .i64 k, .int .i64 n, .string s])).run Tryz.prog w = .ok (.bool false) w := by
  have u3 := Tryz.underlying3
  have u2 := Tryz.underlying2
  have u9 := Tryz.underlying9
  have a3 := Tryz.isAgg3
  have a2 := Tryz.isAgg2
  have a9 := Tryz.isAgg9
  have hS : Tryz.prog.underlying 35 = some (.struct (Tryz.prog.fieldsOf 35)) := by kernel_rfl
  have hp : Tryz.prog.stoodInHeld 35 = false := by kernel_rfl
  rw [run_neq_struct, show (10000 : Nat) = 9999 + 1 from rfl, run_equalIn_agg w 9999 35 _ _ hS hp]
  simp only [Program.fieldsOf, Tryz.underlying35]
  go_simp

set_option maxRecDepth 100000 in
set_option maxHeartbeats 2000000 in
theorem placed_any (d : Nat) (A A' : Option Addr) (c c' : Nat) (l : List Nd) (w : World) (B B' : Nat → Prop) (hs : SlN d w B A l) (hs' : SlN d w B' A' l) :
    Calls Tryz.prog 8 #[.slice A l.length c, .slice A' l.length c'] w fun e w' => e = .returned (.bool true) ∧ ∃ n, w' = w.drewN n := by
  induction d generalizing A A' c c' l w with
  | zero =>
    obtain rfl : l = [] := hs
    go_enter Tryz.func8, Tryz.ntmps8
    go_wp2
    go_loopw [5] (fun i wr => i = .int .i64 0 ∧ wr = w) (fun i _ => 0)
    case atStart => exact ⟨rfl, rfl⟩
    case round =>
      obtain ⟨rfl, rfl⟩ := hrel
      go_wp2
      go_ret
      exact ⟨rfl, 0, rfl⟩
  | succ d ih =>
    have hl := hs.len
    have IH := Lib.hid ih
    have HS := Lib.hid hs
    have HS' := Lib.hid hs'
    clear ih hs hs'
    go_enter Tryz.func8, Tryz.ntmps8
    go_wp2
    go_loopw [5] (fun i wr => ∃ j n : Nat, j ≤ l.length ∧ i = .int .i64 j ∧ wr = w.drewN n) (fun i _ => l.length - (intOf i).toNat)
    case atStart => exact ⟨0, 0, by omega, rfl, rfl⟩
    case round =>
      obtain ⟨j, n, hj, rfl, rfl⟩ := hrel
      by_cases h1 : j < l.length
      · have hji : (j : Int) < (l.length : Int) := by omega
        obtain ⟨b, o, K, kc, rfl, _, hp, hk⟩ := HS.out.at_ h1
        obtain ⟨b', o', K', kc', rfl, _, hp', hk'⟩ := HS'.out.at_ h1
        obtain ⟨x, hpe⟩ : ∃ p, l[j] = p := ⟨_, rfl⟩
        rw [hpe] at hp hp' hk hk'
        have hc := fun i hi => hp i hi
        have c0 : w.cell? ⟨b, o + j * 8, none⟩ = some (.int .i64 x.k) := hp 0 (by decide)
        have c1 : w.cell? ⟨b, o + j * 8 + 1, none⟩ = some (.int .i64 x.vk) := hp 1 (by decide)
        have c2 : w.cell? ⟨b, o + j * 8 + 2, none⟩ = some (.int .i64 x.vn) := hp 2 (by decide)
        have c3 : w.cell? ⟨b, o + j * 8 + 3, none⟩ = some (.string x.vs) := hp 3 (by decide)
        have c4 : w.cell? ⟨b, o + j * 8 + 4, none⟩ = some (.string x.s) := hp 4 (by decide)
        have c5 : w.cell? ⟨b, o + j * 8 + 5, none⟩ = some (.slice K x.kids.length kc) := hp 5 (by decide)
        have c6 : w.cell? ⟨b, o + j * 8 + 6, none⟩ = some (.int .i64 x.ln) := hp 6 (by decide)
        have c7 : w.cell? ⟨b, o + j * 8 + 7, none⟩ = some (.int .i64 x.co) := hp 7 (by decide)
        have d0 : w.cell? ⟨b', o' + j * 8, none⟩ = some (.int .i64 x.k) := hp' 0 (by decide)
        have d1 : w.cell? ⟨b', o' + j * 8 + 1, none⟩ = some (.int .i64 x.vk) := hp' 1 (by decide)
        have d2 : w.cell? ⟨b', o' + j * 8 + 2, none⟩ = some (.int .i64 x.vn) := hp' 2 (by decide)
        have d3 : w.cell? ⟨b', o' + j * 8 + 3, none⟩ = some (.string x.vs) := hp' 3 (by decide)
        have d4 : w.cell? ⟨b', o' + j * 8 + 4, none⟩ = some (.string x.s) := hp' 4 (by decide)
        have d5 : w.cell? ⟨b', o' + j * 8 + 5, none⟩ = some (.slice K' x.kids.length kc') := hp' 5 (by decide)
        have d6 : w.cell? ⟨b', o' + j * 8 + 6, none⟩ = some (.int .i64 x.ln) := hp' 6 (by decide)
        have d7 : w.cell? ⟨b', o' + j * 8 + 7, none⟩ = some (.int .i64 x.co) := hp' 7 (by decide)
        have hq := fun w => neV x.vk x.vn x.vs w
        have HK := Lib.hid hk
        have HK' := Lib.hid hk'
        clear hp hp' hpe hc hk hk'
        go_wp2_with fail
        go_quiet ((refine (IH.out K K' kc kc' x.kids _ (HK.out.drewN _) (HK'.out.drewN _)).mono (fun e w2 h2 => ⟨h2.1, ?_⟩); obtain ⟨m2, h3⟩ := h2.2; exact ⟨_, by rw [h3, World.drewN_drewN, Nat.add_assoc]⟩))
        go_wp2_with fail
        go_quiet (fail)
        go_wp2
        go_roundw
        case rel => exact ⟨j + 1, _, by omega, by go_num, rfl⟩
        case measure => simp [intOf]; omega
      · have hji : ¬ (j : Int) < (l.length : Int) := by omega
        go_wp2
        go_ret
        exact ⟨rfl, n, rfl⟩
end Go.Proofs.YthbighnkohjfnaaGreatDoor
