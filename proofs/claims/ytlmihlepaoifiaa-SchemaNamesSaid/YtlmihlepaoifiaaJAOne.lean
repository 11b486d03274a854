/-
  CONTRACT: ofOne (the facts of the entity that stands first).
-/
import Derived.BigQuiet
import Derived.Test.YtlmihlepaoifiaaJFMay
namespace Go.Proofs.Ytlmihlepaoifiaa
open Go.RowKit Go.Shelf

/-- the first n facts are those of the entity that stands first -/
structure OneAt (fs : List FactP) (n : Nat) : Prop where
  pos : 1 ≤ n
  le : n ≤ fs.length
  same : ∀ i f g, i < n → fs[i]? = some f → fs[0]? = some g → f.e = g.e
  next : ∀ f g, fs[n]? = some f → fs[0]? = some g → f.e ≠ g.e
set_option maxRecDepth 100000 in
set_option maxHeartbeats 2000000 in
theorem ofOne_any (A : Option Addr) (c : Nat) (fs : List FactP) (w : World) (hs : FVa w (.slice A fs.length c) fs) (h0 : 0 < fs.length) (hl : fs.length ≤ 1954687338268) :
    Calls Try.prog 45 #[.slice A fs.length c] w fun e w' => (∃ n : Nat, e = .returned (.slice A n c) ∧ OneAt fs n) ∧ ∃ q, w' = w.drewN q := by
  obtain ⟨b, o, sv, rfl, hlt, hc, _⟩ := fva_at hs h0
  obtain ⟨f0, hf0⟩ : ∃ f0, fs[0] = f0 := ⟨_, rfl⟩
  have HF0 : Hid (fs[0]? = some f0) := by show _ = _; rw [List.getElem?_eq_getElem h0, hf0]
  rw [hf0] at hc
  have hcc : fs.length ≤ c := by obtain ⟨A2, c2, e, _, h2, _⟩ := hs; injection e with _ _ e; omega
  have z0 := hc.1
  simp only [Nat.zero_mul, Nat.add_zero] at z0
  have hi0 : (0 : Int) < (fs.length : Int) := by omega
  have HS := Lib.hid hs
  clear hs hc hf0
  go_enter Try.func45, Try.ntmps45
  go_wp2
  go_loopg [3] (fs.length - 1) (fun g x wr => ∃ (j q : Nat), x = .int .i64 j ∧ 1 ≤ j ∧ j + g = fs.length ∧ Hid (∀ i f, i < j → fs[i]? = some f → f.e = f0.e) ∧ wr = w.drewN q)
  case atStart =>
    refine ⟨1, 0, rfl, Nat.le_refl _, by omega, fun i f hi hf => ?_, rfl⟩
    obtain rfl : i = 0 := by omega
    rw [HF0.out] at hf
    cases hf
    rfl
  case round =>
    obtain ⟨j, q, rfl, hj1, hj, HJ, rfl⟩ := hrel
    cases gk with
    | zero =>
      have hji : decide ((j : Int) < (fs.length : Int)) = false := decide_eq_false (by omega)
      have hjl : ¬ (j : Int) < (fs.length : Int) := by omega
      have HE : Hid (OneAt fs j) := ⟨hj1, by omega, fun i f g hi hf hg => by rw [HF0.out] at hg; cases hg; exact HJ.out i f hi hf, fun f g hf => by rw [List.getElem?_eq_none (by omega)] at hf; cases hf⟩
      have hjd : decide (j < fs.length) = false := decide_eq_false (by omega)
      have hjm : ¬ j < fs.length := by omega
      have hjc : j ≤ c := by omega
      have hjf : j ≤ fs.length := by omega
      clear hj hj1
      go_wp2
      go_quiet (fail)
      go_wp2
      go_ret
      exact ⟨⟨j, rfl, HE.out⟩, _, rfl⟩
    | succ g =>
      have hji : decide ((j : Int) < (fs.length : Int)) = true := decide_eq_true (by omega)
      have hjl : (j : Int) < (fs.length : Int) := by omega
      have hjn : j < fs.length := by omega
      obtain ⟨b2, o2, sv2, hA, _, hc, _⟩ := fva_at HS.out hjn
      injection hA with hA
      injection hA with e1 e2
      subst e1
      subst e2
      obtain ⟨f, hf⟩ : ∃ f, fs[j] = f := ⟨_, rfl⟩
      rw [hf] at hc
      have HFG : Hid (fs[j]? = some f) := by show _ = _; rw [List.getElem?_eq_getElem hjn, hf]
      have y0 := hc.1
      have hjc : j ≤ c := by omega
      clear hf hc
      by_cases he : f.e = f0.e
      · have q0 : (f.e == f0.e) = true := by rw [he, beq_self_eq_true]
        have HN : Hid (∀ i f, i < j + 1 → fs[i]? = some f → f.e = f0.e) := fun i f' hi hf' => by
          by_cases h : i < j
          · exact HJ.out i f' h hf'
          · obtain rfl : i = j := by omega
            rw [HFG.out] at hf'
            cases hf'
            exact he
        clear he
        go_wp2
        go_quiet (fail)
        go_wp2
        go_roundg g
        case measure => omega
        case rel => exact ⟨j + 1, _, by go_num, by omega, by omega, HN, rfl⟩
      · have q0 : (f.e == f0.e) = false := beq_eq_false_iff_ne.2 he
        have HE : Hid (OneAt fs j) := ⟨hj1, by omega, fun i f g hi hf hg => by rw [HF0.out] at hg; cases hg; exact HJ.out i f hi hf, fun f' g hf hg => by rw [HF0.out] at hg; rw [HFG.out] at hf; cases hg; cases hf; exact he⟩
        clear he
        go_wp2
        go_quiet (fail)
        go_wp2
        go_ret
        exact ⟨⟨j, rfl, HE.out⟩, _, rfl⟩
end Go.Proofs.Ytlmihlepaoifiaa
