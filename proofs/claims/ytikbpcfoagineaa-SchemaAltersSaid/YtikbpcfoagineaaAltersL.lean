/-
  THE LAW SchemaAlters, at a run.
-/
import Derived.Test.YtikbpcfoagineaaARef
import Derived.Test.YtikbpcfoagineaaAAlter
namespace Go.Proofs.Ytikbpcfoagineaa
open Go.RowKit

theorem below_drewN {B : Nat} {w w1 : World} (h : Below B w w1) (n : Nat) : Below B w (w1.drewN n) := ⟨h.os, h.tape, h.output, h.size, h.block⟩

set_option maxRecDepth 100000 in
set_option maxHeartbeats 4000000 in
theorem sAlters_any (A A' : Option Addr) (c c' : Nat) (a b : List Att) (w : World) (hs : SlA w w.heap.size A a) (hs' : SlA w w.heap.size A' b) (ok : ∀ q ∈ a, AttOk q) (ok' : ∀ q ∈ b, AttOk q) :
    Calls Try.prog 4 #[.slice A a.length c, .slice A' b.length c'] w fun e w' => e = .returned (.bool true) ∧ Below w.heap.size w w' := by
  have HS := Lib.hid hs
  have HS' := Lib.hid hs'
  have HO := Lib.hid ok
  have HO' := Lib.hid ok'
  clear hs hs' ok ok'
  by_cases h1 : a.length ≤ 100
  · have i1 : ¬ (100 : Int) < (a.length : Int) := by omega
    by_cases h2 : b.length ≤ 100
    · have i2 : ¬ (100 : Int) < (b.length : Int) := by omega
      go_enter Try.func4, Try.ntmps4
      go_wp2
      go_loopg [5] a.length (fun g i wr => ∃ j : Nat, i = .int .i64 j ∧ j + g = a.length ∧ wr = w)
      case atStart => exact ⟨0, rfl, by omega, rfl⟩
      case round =>
        obtain ⟨j, rfl, hj, hw⟩ := hrel
        subst hw
        cases gk with
        | zero =>
          have hji : ¬ (j : Int) < (a.length : Int) := by omega
          have HC1 := Lib.hid (alter_any A A' c c' a b wr HS.out HS'.out (by omega) (by omega) HO.out HO'.out)
          go_wp2_with fail
          refine HC1.out.mono ?_
          rintro e w1 ⟨rfl, hb1⟩
          have HB1 := Lib.hid hb1
          have HS1 := Lib.hid (HS.out.next hb1 (Nat.le_refl _))
          have HS1' := Lib.hid (HS'.out.next hb1 (Nat.le_refl _))
          clear hb1 HC1
          have HC2 := Lib.hid (refAlter_any A A' c c' a b w1 _ HS1.out HS1'.out (by omega) (by omega))
          have HC3 : Hid (∀ n2, Calls Try.prog 18 #[.slice A a.length c, .slice A a.length c] (w1.drewN n2) fun e w3 => e = .returned (.int .i64 0) ∧ Below w1.heap.size (w1.drewN n2) w3) := fun n2 =>
            (alter_any A A c c a a (w1.drewN n2) (HS1.out.more HB1.out.size) (HS1.out.more HB1.out.size) (by omega) (by omega) HO.out HO.out).mono fun e w3 ⟨he, hb⟩ => ⟨by rw [he, altN_self], hb⟩
          go_wp2_with fail
          refine HC2.out.mono ?_
          rintro e w2 ⟨rfl, n2, rfl⟩
          clear HC2
          go_wp2_with fail
          refine (HC3.out n2).mono ?_
          rintro e w3 ⟨rfl, hb3⟩
          have HB3 := Lib.hid hb3
          clear hb3 HC3
          go_wp2
          go_ret
          exact ⟨rfl, (below_drewN HB1.out n2).trans (HB3.out.mono HB1.out.size)⟩
        | succ g =>
          have hji : (j : Int) < (a.length : Int) := by omega
          have hjn : j < a.length := by omega
          obtain ⟨b0, o, rfl, _, hp⟩ := HS.out.at_ hjn
          obtain ⟨y, hy⟩ : ∃ y, a[j] = y := ⟨_, rfl⟩
          rw [hy] at hp
          have y1 := hp.c1
          clear hp hy
          by_cases hn : y.nm.size ≤ 100
          · have i3 : ¬ (100 : Int) < (y.nm.size : Int) := by omega
            go_wp2
            go_roundg g
            case measure => omega
            case rel => exact ⟨j + 1, by go_num, by omega, rfl⟩
          · have i3 : (100 : Int) < (y.nm.size : Int) := by omega
            go_wp2
            go_ret
            exact ⟨rfl, Below.refl _ _⟩
    · have i2 : (100 : Int) < (b.length : Int) := by omega
      go_enter Try.func4, Try.ntmps4
      go_wp2
      go_ret
      exact ⟨rfl, Below.refl _ _⟩
  · have i1 : (100 : Int) < (a.length : Int) := by omega
    go_enter Try.func4, Try.ntmps4
    go_wp2
    go_ret
    exact ⟨rfl, Below.refl _ _⟩
end Go.Proofs.Ytikbpcfoagineaa
