/-
  A CUT OF FACTS: s[k:] and s[:k] at slices of facts, and what they read as; the cut attributes come in as runs.
-/
import Derived.Test.YtlmihlepaoifiaaJDSl
import Derived.Test.YtlmihlepaoifiaaJAMayE
namespace Go.Proofs.Ytlmihlepaoifiaa
open Go.RowKit Go.Shelf

def cutFa (A : Option Addr) (c k : Nat) : Option Addr := if c = k then A else A.map (·.add (k * 6))
theorem sliceFa_from (A : Option Addr) (n c k : Nat) (hk : k ≤ n) (_hc : n ≤ c) (w : World) : (Instr.slice 24 (.slice A n c) (some (.int .i64 (k : Int))) none none).run Try.prog w = .ok (.slice (cutFa A c k) (n - k) (c - k)) w := by
  have hT : Try.prog.underlying 24 = some (.slice (Try.prog.elem 24)) := by kernel_rfl
  have hS : (Go.sizeOf (Try.prog.elem 24)).run Try.prog w = .ok 6 w := by kernel_rfl
  rw [run_slice_l (w := w) 24 A n c hT .i64 (k : Int) (by omega) (by omega), hS]
  simp [Result.andThen, sliced, cutFa]
/-- the facts behind the first k -/
theorem FVa.drop {W : World} {A : Option Addr} {c : Nat} {fs : List FactP} (h : FVa W (.slice A fs.length c) fs) (k : Nat) (hk : k ≤ fs.length) : FVa W (.slice (cutFa A c k) (fs.drop k).length (c - k)) (fs.drop k) := by
  obtain ⟨A2, c2, e, hs, h2, h3⟩ := h
  injection e with e1 _ e3
  subst e1
  subst e3
  refine ⟨_, _, rfl, fun hl => ?_, by rw [List.length_drop]; omega, by omega⟩
  have hkl : k < fs.length := by
    rcases Nat.lt_or_ge k fs.length with h1 | h1
    · exact h1
    · exact absurd (List.drop_of_length_le h1) hl
  obtain ⟨b, o, rfl, hlt, hc⟩ := hs (fun e => by rw [e] at hkl; exact absurd hkl (Nat.not_lt_zero _))
  refine ⟨b, o + k * 6, ?_, hlt, fun j f hf => ?_⟩
  · unfold cutFa
    rw [if_neg (by omega)]
    show some ((⟨b, o, none⟩ : Addr).add (k * 6)) = _
    rw [addI]
  · rw [List.getElem?_drop] at hf
    obtain ⟨sv, h4, h5⟩ := hc (k + j) f hf
    refine ⟨sv, ?_, h5⟩
    rwa [show o + k * 6 + j * 6 = o + (k + j) * 6 by omega]
/-- the first k facts -/
theorem FVa.take {W : World} {A : Option Addr} {c : Nat} {fs : List FactP} (h : FVa W (.slice A fs.length c) fs) (k : Nat) (hk : k ≤ fs.length) : FVa W (.slice A (fs.take k).length c) (fs.take k) := by
  obtain ⟨A2, c2, e, hs, h2, h3⟩ := h
  injection e with e1 _ e3
  subst e1
  subst e3
  refine ⟨_, _, rfl, fun hl => ?_, by rw [List.length_take]; omega, h3⟩
  obtain ⟨b, o, rfl, hlt, hc⟩ := hs (fun e => hl (by rw [e]; simp))
  refine ⟨b, o, rfl, hlt, fun j f hf => ?_⟩
  rw [List.getElem?_take] at hf
  split at hf
  · exact hc j f hf
  · cases hf
/-- there is a cut into entities -/
theorem runsE_any : ∀ (n : Nat) (fs : List FactP), fs.length ≤ n → ∃ rs, RunsE fs rs := by
  intro n
  induction n with
  | zero =>
    intro fs h
    obtain rfl := List.length_eq_zero_iff.1 (Nat.le_zero.1 h)
    exact ⟨[], .nil⟩
  | succ n ih =>
    intro fs h
    cases fs with
    | nil => exact ⟨[], .nil⟩
    | cons f l =>
      have hone : ∃ k, OneAt (f :: l) k := by
        refine ⟨((f :: l).takeWhile fun g => decide (g.e = f.e)).length, ?_⟩
        have hw : (f :: l).takeWhile (fun g => decide (g.e = f.e)) = f :: l.takeWhile (fun g => decide (g.e = f.e)) := by rw [List.takeWhile_cons]; simp
        have hp : (f :: l).takeWhile (fun g => decide (g.e = f.e)) <+: (f :: l) := List.takeWhile_prefix _
        refine ⟨by rw [hw]; simp, hp.length_le, fun i a b hi ha hb => ?_, fun a b ha hb => ?_⟩
        · simp at hb
          subst hb
          have hi2 : ((f :: l).takeWhile fun g => decide (g.e = f.e))[i]? = some a := by
            obtain ⟨t, ht⟩ := hp
            rw [← ht, List.getElem?_append_left hi] at ha
            exact ha
          have := List.all_eq_true.1 (List.all_takeWhile (p := fun g : FactP => decide (g.e = f.e)) (l := f :: l)) a (List.mem_of_getElem? hi2)
          simpa using this
        · simp at hb
          subst hb
          intro he
          have hd : (f :: l).dropWhile (fun g => decide (g.e = f.e)) = (f :: l).drop ((f :: l).takeWhile fun g => decide (g.e = f.e)).length := by
            have h1 := List.takeWhile_append_dropWhile (p := fun g : FactP => decide (g.e = f.e)) (l := f :: l)
            have h2 : (f :: l).drop ((f :: l).takeWhile fun g => decide (g.e = f.e)).length = (((f :: l).takeWhile fun g => decide (g.e = f.e)) ++ (f :: l).dropWhile fun g => decide (g.e = f.e)).drop ((f :: l).takeWhile fun g => decide (g.e = f.e)).length := by rw [h1]
            rw [h2, List.drop_left]
          have hh : ((f :: l).dropWhile fun g => decide (g.e = f.e)).head? = some a := by rw [hd, List.head?_drop]; exact ha
          have := List.head?_dropWhile_not (fun g : FactP => decide (g.e = f.e)) (f :: l)
          rw [hh] at this
          simp at this
          exact this he
      obtain ⟨k, hk⟩ := hone
      have hkp := hk.pos
      obtain ⟨rs, hr⟩ := ih ((f :: l).drop k) (by rw [List.length_drop]; simp only [List.length_cons] at h ⊢; omega)
      exact ⟨_, .cons hk hr⟩
end Go.Proofs.Ytlmihlepaoifiaa
