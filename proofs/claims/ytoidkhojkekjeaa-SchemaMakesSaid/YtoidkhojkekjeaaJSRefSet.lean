/-
  CONTRACT of the document's own answer: Set.
-/
import Derived.Test.YtoidkhojkekjeaaJSSet
namespace Go.Proofs.Ytoidkhojkekjeaa
open Go.RowKit

set_option maxRecDepth 100000 in
set_option maxHeartbeats 400000 in
theorem refSet_big (A : Option Addr) (c : Nat) (l : List Sp) (w : World) (B : Nat) (hs : SlS w B A l) (hl : l.length ≤ 9223372036854775807) :
    Calls Try.prog 23 #[.slice A l.length c] w fun e w' => e = .returned (.bool (setB l)) ∧ ∃ n, w' = w.drewN n := by
  go_enter Try.func23, Try.ntmps23
  go_wp2
  go_loopw [3] (fun i wr => ∃ j n : Nat, j ≤ l.length ∧ i = .int .i64 j ∧ wr = w.drewN n ∧ Hid (∀ k, k < j → OkAt l k)) (fun i _ => l.length - (intOf i).toNat)
  case atStart => exact ⟨0, 0, by omega, rfl, rfl, fun k hk => by omega⟩
  case round =>
    obtain ⟨j, n, hj, rfl, rfl, HO⟩ := hrel
    by_cases h1 : j < l.length
    · have hji : (j : Int) < (l.length : Int) := by omega
      obtain ⟨b, o, rfl, _, hp⟩ := hs.at_ h1
      obtain ⟨⟨x, y⟩, hpe⟩ : ∃ p, l[j] = p := ⟨_, rfl⟩
      have HG : Hid (l[j]? = some (x, y)) := by show _ = _; rw [List.getElem?_eq_getElem h1, hpe]
      rw [hpe] at hp
      have c0 := hp.c0
      have c1 := hp.c1
      have HS := Lib.hid hs
      clear hp hpe
      by_cases hxy : x < y
      · have hng : ¬ y ≤ x := by omega
        have hdg : decide (y ≤ x) = false := decide_eq_false hng
        cases j with
        | zero =>
          have HY : Hid (∀ i, i < 0 + 1 → OkAt l i) := fun i hi => by
            obtain rfl : i = 0 := by omega
            exact (okAt_first HG.out).2 hxy
          clear hs
          simp only [Nat.zero_mul, Nat.add_zero] at c0 c1
          go_wp2
          go_big_quiet (fail)
          go_wp2
          go_roundw
          case rel => exact ⟨0 + 1, _, by omega, rfl, rfl, HY⟩
          case measure => simp [intOf]; omega
        | succ k =>
          have hkl : k < l.length := by omega
          obtain ⟨b', o', he, _, hq⟩ := hs.at_ hkl
          cases he
          obtain ⟨p, hpe⟩ : ∃ p, l[k] = p := ⟨_, rfl⟩
          have HPG : Hid (l[k]? = some p) := by show _ = _; rw [List.getElem?_eq_getElem hkl, hpe]
          rw [hpe] at hq
          have d1 := hq.c1
          clear hq hs hpe
          have hk0 : (0 : Int) < (k : Int) + 1 := by omega
          have hdk : decide ((0 : Int) < (k : Int) + 1) = true := decide_eq_true hk0
          have hki : (k : Int) < (l.length : Int) := by omega
          have hwr : IntKind.i64.wrap (k : Int) = (k : Int) := by
            rw [IntWalk.i64_in _ (by omega)]
          by_cases hle : x ≤ p.2
          · have hdp : decide (x ≤ p.2) = true := decide_eq_true hle
            have HN := Lib.hid (setB_no (l := l) (i := k + 1) (fun h => by have := ((okAt_next (by omega) HG.out HPG.out).1 h).2; simp only at this; omega))
            go_wp2
            go_big_quiet (fail)
            go_wp2
            go_ret
            exact ⟨by rw [HN.out]; rfl, _, World.drewN_drewN _ _ _⟩
          · have hdp : decide (x ≤ p.2) = false := decide_eq_false hle
            have HY : Hid (∀ i, i < k + 1 + 1 → OkAt l i) := fun i hi => by
              rcases Nat.lt_succ_iff_lt_or_eq.1 hi with h | rfl
              · exact HO.out i h
              · exact (okAt_next (by omega) HG.out HPG.out).2 ⟨hxy, by simp only; omega⟩
            go_wp2
            go_big_quiet (fail)
            go_wp2
            go_roundw
            case rel => exact ⟨k + 1 + 1, _, by omega, by go_num, rfl, HY⟩
            case measure => simp [intOf]; omega
      · have hng : y ≤ x := by omega
        have hdg : decide (y ≤ x) = true := decide_eq_true hng
        have HN := Lib.hid (setB_no (l := l) (i := j) (fun h => hxy ((h _ HG.out).1)))
        clear hs
        go_wp2
        go_big_quiet (fail)
        go_wp2
        go_ret
        exact ⟨by rw [HN.out]; rfl, _, World.drewN_drewN _ _ _⟩
    · have hji : ¬ (j : Int) < (l.length : Int) := by omega
      have HV := Lib.hid (setB_all (l := l) (fun i hi => HO.out i (by omega)))
      go_wp2
      go_ret
      exact ⟨by rw [HV.out]; rfl, n, rfl⟩
theorem refSet_any (A : Option Addr) (c : Nat) (l : List Sp) (w : World) (B : Nat) (hs : SlS w B A l) (hl : l.length ≤ 1048576) :
    Calls Try.prog 23 #[.slice A l.length c] w fun e w' => e = .returned (.bool (setB l)) ∧ ∃ n, w' = w.drewN n := refSet_big A c l w B hs (by omega)
end Go.Proofs.Ytoidkhojkekjeaa
