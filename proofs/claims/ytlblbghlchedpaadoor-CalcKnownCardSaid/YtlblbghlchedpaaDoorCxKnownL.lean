/-
  THE LAW CalcKnown: its walk.
-/
import Derived.Test.YtlblbghlchedpaaDoorCxNames
import Derived.Test.YtlblbghlchedpaaDoorOrdRef
import Derived.BigQuiet
namespace Go.Proofs.YtlblbghlchedpaaDoor
open Go.RowKit Go.Shelf

set_option maxRecDepth 100000 in
set_option maxHeartbeats 2000000 in
theorem knownL_any (s : ByteArray) (w : World) (hF : FamAt w w.heap.size) :
    Calls Tryd.prog 3 #[.string s] w fun e w' => e = .returned (.bool true) ∧ Below w.heap.size w w' := by
  by_cases h : 100 < s.size
  · have hi : (100 : Int) < (s.size : Int) := by omega
    go_enter Tryd.func3, Tryd.ntmps3
    go_wp2
    go_ret
    exact ⟨rfl, Below.refl _ _⟩
  · have hi : ¬ (100 : Int) < (s.size : Int) := by omega
    have H1 := Lib.hid (known_any s w hF)
    have H2 := Lib.hid (fun X => refKnown_any s X)
    have H3 := Lib.hid (fun X h => names_any X h)
    have H4 := Lib.hid (fun X => refNames_any X)
    have HF := Lib.hid hF
    obtain ⟨k1, h1⟩ : ∃ k, (knownC s.data.toList).1 = k := ⟨_, rfl⟩
    obtain ⟨k2, h2⟩ : ∃ k, (knownC s.data.toList).2.1 = k := ⟨_, rfl⟩
    obtain ⟨k3, h3⟩ : ∃ k, (knownC s.data.toList).2.2 = k := ⟨_, rfl⟩
    rw [h1, h2, h3] at H1
    simp only [h1, h2, h3] at H2
    clear hF h1 h2 h3 h
    go_enter Tryd.func3, Tryd.ntmps3
    go_wp2_with fail
    refine H1.out.mono ?_
    rintro e w1 ⟨rfl, hb1⟩
    have HB1 := Lib.hid hb1
    clear hb1
    go_wp2_with fail
    refine (H2.out _).mono ?_
    rintro e w2 ⟨rfl, hb2⟩
    have HB2 := Lib.hid (HB1.out.trans (hb2.mono HB1.out.size))
    clear hb2
    go_wp2_with fail
    refine (H3.out _ ((HF.out.next HB2.out).more HB2.out.size)).mono ?_
    rintro e w3 ⟨⟨A, c, rfl, hs3⟩, hb3⟩
    have HB3 := Lib.hid (HB2.out.trans (hb3.mono HB2.out.size))
    have HS3 := Lib.hid hs3
    clear hb3 hs3
    go_wp2_with fail
    refine (H4.out _).mono ?_
    rintro e w4 ⟨rfl, hs4, hz4, hb4⟩
    have HB4 := Lib.hid (HB3.out.trans (hb4.mono HB3.out.size))
    have hs5 := HS3.out.next hb4 (Nat.le_refl _)
    obtain ⟨b, o, rfl, hlt, hc⟩ := hs5
    obtain ⟨b', o', e', hlt', hc'⟩ := hs4
    obtain ⟨rfl, rfl⟩ : b' = w3.heap.size ∧ o' = 0 := by injection e' with e1; injection e1 with e2 e3; exact ⟨e2.symm, e3.symm⟩
    have HC := Lib.hid (And.intro hc hc')
    clear hb4 hz4 hc hc' e' hlt hlt'
    cases k2
    all_goals cases k3
    all_goals
      go_wp2
      go_loopw [11, 51] (fun _ i wr => ∃ j : Nat, j ≤ 27 ∧ i = .int .i64 j ∧ wr.heap = w4.heap ∧ Hid (Below w.heap.size w wr)) (fun _ i _ => 27 - (intOf i).toNat)
      case atStart => exact ⟨0, by omega, rfl, rfl, HB4.out⟩
      case round =>
        obtain ⟨j, hj, rfl, hw, HBr⟩ := hrel
        by_cases hj2 : j < 27
        · have hji : (j : Int) < 27 := by omega
          obtain ⟨n, hn⟩ : ∃ n, namesC[j]? = some n := ⟨namesC[j]'hj2, List.getElem?_eq_getElem hj2⟩
          have c1 := HC.out.1 j n hn
          have c2 := HC.out.2 j n hn
          have hcw : ∀ p : Addr, wr.cell? p = w4.cell? p := fun p => by unfold World.cell?; rw [hw]
          rw [← hcw] at c1 c2
          rw [Nat.zero_add] at c2
          obtain ⟨t, ht⟩ : ∃ t, strB n = t := ⟨_, rfl⟩
          rw [ht] at c1 c2
          have hq : (t.toList == t.toList) = true := by simp
          clear hn hcw ht
          go_wp2
          go_quiet (fail)
          go_wp2
          go_roundw
          case rel => exact ⟨j + 1, by omega, by go_num, hw, below_dn HBr.out _⟩
          case measure => simp [intOf]; omega
        · have hji : ¬ (j : Int) < 27 := by omega
          go_wp2
          go_ret
          exact ⟨rfl, HBr.out⟩
end Go.Proofs.YtlblbghlchedpaaDoor
