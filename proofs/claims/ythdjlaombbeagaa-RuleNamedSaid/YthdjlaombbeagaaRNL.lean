/-
  THE LAW RuleNamed, with the contracts of Variable (the program's, and the document's).
-/
import Derived.Test.YthdjlaombbeagaaTNNam
namespace Go.Proofs.Ythdjlaombbeagaa
open Go.RowKit

/-- a variable: a name of two bytes or more, of which the first is '?' -/
def varB (s : ByteArray) : Bool := decide (2 ≤ s.size) && (s.data.toList.headD 0 == 63) && namR s.data.toList
set_option maxRecDepth 100000 in
set_option maxHeartbeats 1000000 in
theorem variable_any (s : ByteArray) (w : World) (hs : s.size ≤ 2000) :
    Calls Try.prog 4 #[.string s] w fun e w' => e = .returned (.bool (varB s)) ∧ Below w.heap.size w w' := by
  by_cases h : 2 ≤ s.size
  · have hi : (2 : Int) ≤ (s.size : Int) := by omega
    have hi' : decide ((2 : Int) ≤ (s.size : Int)) = true := decide_eq_true hi
    have hpos : 0 < s.size := by omega
    have hhd := head_at s hpos
    by_cases g : s[0] = 63
    · have gi : (((s[0].toNat : Nat) : Int) == 63) = true := by rw [g]; rfl
      have HV : Hid (varB s = namR s.data.toList) := by show _ = _; unfold varB; rw [decide_eq_true h, hhd, g]; rfl
      have h1 := fun W => named_any s W hs
      simp only [nam_one] at h1
      have H1 := Lib.hid h1
      rw [HV.out]
      obtain ⟨R, hR⟩ : ∃ R, namR s.data.toList = R := ⟨_, rfl⟩
      rw [hR] at H1 ⊢
      clear h1 hR HV hhd g h
      go_enter Try.func4, Try.ntmps4
      go_wp2_with fail
      refine (H1.out _).mono ?_
      rintro e w1 ⟨rfl, hb1⟩
      have HB1 := Lib.hid hb1
      clear hb1
      go_wp2
      go_ret
      exact ⟨rfl, HB1.out⟩
    · have gi : (((s[0].toNat : Nat) : Int) == 63) = false := by
        rw [beq_eq_false_iff_ne]
        intro e
        exact g (UInt8.toNat_inj.1 (by have : (63 : UInt8).toNat = 63 := rfl; omega))
      have HV : Hid (varB s = false) := by show _ = _; unfold varB; rw [decide_eq_true h, hhd, beq_eq_false_iff_ne.2 g]; rfl
      rw [HV.out]
      clear HV hhd g h
      go_enter Try.func4, Try.ntmps4
      go_wp2
      go_ret
      exact ⟨rfl, Below.refl _ _⟩
  · have hi : ¬ (2 : Int) ≤ (s.size : Int) := by omega
    have hi' : decide ((2 : Int) ≤ (s.size : Int)) = false := decide_eq_false hi
    have HV : Hid (varB s = false) := by show _ = _; unfold varB; rw [decide_eq_false h]; rfl
    rw [HV.out]
    clear HV h
    go_enter Try.func4, Try.ntmps4
    go_wp2
    go_ret
    exact ⟨rfl, Below.refl _ _⟩
set_option maxRecDepth 100000 in
set_option maxHeartbeats 1000000 in
theorem refVariable_any (s : ByteArray) (w : World) (hs : s.size ≤ 2000) :
    Calls Try.prog 5 #[.string s] w fun e w' => e = .returned (.bool (varB s)) ∧ w = w' := by
  have H1 := Lib.hid (fun W => refNamed_any s W hs)
  obtain ⟨R, hR⟩ : ∃ R, namR s.data.toList = R := ⟨_, rfl⟩
  have HV0 : Hid (varB s = (decide (2 ≤ s.size) && (s.data.toList.headD 0 == 63) && R)) := by show _ = _; unfold varB; rw [hR]
  rw [hR] at H1
  clear hR
  cases R with
  | false =>
    have HV : Hid (varB s = false) := by show _ = _; rw [HV0.out, Bool.and_false]
    rw [HV.out]
    go_enter Try.func5, Try.ntmps5
    go_wp2_with fail
    refine (H1.out _).mono ?_
    rintro e w1 ⟨rfl, rfl⟩
    go_wp2
    go_ret
    exact ⟨rfl, rfl⟩
  | true =>
    by_cases h : 2 ≤ s.size
    · have hi : (1 : Int) < (s.size : Int) := by omega
      have hi' : decide ((1 : Int) < (s.size : Int)) = true := decide_eq_true hi
      have hpos : 0 < s.size := by omega
      have hhd := head_at s hpos
      have HV : Hid (varB s = (((s[0].toNat : Nat) : Int) == 63)) := by
        show _ = _
        rw [HV0.out, decide_eq_true h, hhd, Bool.true_and, Bool.and_true]
        by_cases g : s[0] = 63
        · rw [g]; rfl
        · rw [beq_eq_false_iff_ne.2 g]
          symm
          rw [beq_eq_false_iff_ne]
          intro e
          exact g (UInt8.toNat_inj.1 (by have : (63 : UInt8).toNat = 63 := rfl; omega))
      rw [HV.out]
      clear hhd h HV0
      go_enter Try.func5, Try.ntmps5
      go_wp2_with fail
      refine (H1.out _).mono ?_
      rintro e w1 ⟨rfl, rfl⟩
      go_wp2
      go_ret
      exact ⟨rfl, rfl⟩
    · have hi : ¬ (1 : Int) < (s.size : Int) := by omega
      have hi' : decide ((1 : Int) < (s.size : Int)) = false := decide_eq_false hi
      have HV : Hid (varB s = false) := by show _ = _; rw [HV0.out, decide_eq_false h]; rfl
      rw [HV.out]
      clear h HV0
      go_enter Try.func5, Try.ntmps5
      go_wp2_with fail
      refine (H1.out _).mono ?_
      rintro e w1 ⟨rfl, rfl⟩
      go_wp2
      go_ret
      exact ⟨rfl, rfl⟩
set_option maxRecDepth 100000 in
set_option maxHeartbeats 1000000 in
theorem ruleNamedL_any (s : ByteArray) (w : World) :
    Calls Try.prog 3 #[.string s] w fun e w' => e = .returned (.bool true) ∧ Below w.heap.size w w' := by
  by_cases h : 1000 < s.size
  · have hi : (1000 : Int) < (s.size : Int) := by omega
    go_enter Try.func3, Try.ntmps3
    go_wp2
    go_ret
    exact ⟨rfl, Below.refl _ _⟩
  · have hi : ¬ (1000 : Int) < (s.size : Int) := by omega
    have H1 := Lib.hid (variable_any s w (by omega))
    have H2 := Lib.hid (fun W => refVariable_any s W (by omega))
    obtain ⟨R, hR⟩ : ∃ R, varB s = R := ⟨_, rfl⟩
    rw [hR] at H1 H2
    have hRR : (R == R) = true := by simp
    clear hR
    go_enter Try.func3, Try.ntmps3
    go_wp2_with fail
    refine H1.out.mono ?_
    rintro e w1 ⟨rfl, hb1⟩
    have HB1 := Lib.hid hb1
    clear hb1
    go_wp2_with fail
    refine (H2.out _).mono ?_
    rintro e w2 ⟨rfl, rfl⟩
    go_wp2
    go_ret
    exact ⟨rfl, HB1.out⟩
end Go.Proofs.Ythdjlaombbeagaa
