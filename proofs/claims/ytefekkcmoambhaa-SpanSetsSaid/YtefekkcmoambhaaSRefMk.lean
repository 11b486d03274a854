/-
  CONTRACTS of the document's own answer: Covers, Make.
-/
import Derived.Test.YtefekkcmoambhaaSTwo
namespace Go.Proofs.Ytefekkcmoambhaa
open Go.RowKit

def covB (a b : List Sp) : Bool := setB a && setB b && decide ((twoL notF b a).length = 0)
set_option maxRecDepth 100000 in
set_option maxHeartbeats 1000000 in
theorem refCovers_any (A A' : Option Addr) (c c' : Nat) (a b : List Sp) (w : World) (hs : SlS w w.heap.size A a) (hs' : SlS w w.heap.size A' b) (hA : A = none → a.length = 0 ∧ c = 0) (hA' : A' = none → b.length = 0 ∧ c' = 0) (hla : a.length ≤ 100) (hlb : b.length ≤ 100) :
    Calls Try.prog 27 #[.slice A a.length c, .slice A' b.length c'] w fun e w' => e = .returned (.bool (covB a b)) ∧ Below w.heap.size w w' := by
  have h1 := twoNot_any A' A c' c b a w hs' hs hA' hA hlb hla
  clear hs hs' hA hA'
  go_enter Try.func27, Try.ntmps27
  go_wp2_with fail
  refine h1.mono ?_
  rintro e w1 ⟨v, rfl, ho, hb⟩
  obtain ⟨A2, c2, rfl, _, _, _⟩ := ho.sls
  have HB := Lib.hid hb
  clear h1 ho hb
  obtain ⟨x, hx⟩ : ∃ x, (setB b && setB a) = x := ⟨_, rfl⟩
  obtain ⟨n, hn⟩ : ∃ n, (twoL notF b a).length = n := ⟨_, rfl⟩
  have hE : twoE b a = if x then 0 else 30 := by unfold twoE; rw [hx]
  have HCV : Hid (covB a b = (x && decide (n = 0))) := by
    show _ = _
    unfold covB
    rw [hn, Bool.and_comm (setB a), hx]
  rw [hE, hn]
  clear hE hx hn
  cases x with
  | false =>
    have HF : Hid (covB a b = false) := HCV.out
    simp only [Bool.false_eq_true, if_false]
    go_wp2
    go_ret
    exact ⟨by rw [HF.out]; rfl, HB.out⟩
  | true =>
    simp only [if_true]
    by_cases h0 : n = 0
    · have HF : Hid (covB a b = true) := by show _ = _; rw [HCV.out, h0]; rfl
      subst h0
      go_wp2
      go_ret
      exact ⟨by rw [HF.out]; rfl, HB.out⟩
    · have HF : Hid (covB a b = false) := by show _ = _; rw [HCV.out, decide_eq_false h0]; rfl
      have hd : decide ((n : Int) = 0) = false := decide_eq_false (by omega)
      have hbq : ((n : Int) == 0) = false := beq_eq_false_iff_ne.2 (by omega)
      go_wp2
      go_ret
      exact ⟨by rw [HF.out]; rfl, HB.out⟩
end Go.Proofs.Ytefekkcmoambhaa
