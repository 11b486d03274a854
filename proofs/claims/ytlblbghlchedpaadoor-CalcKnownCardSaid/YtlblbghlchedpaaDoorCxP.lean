/-
  PLAIN FUNCTIONS: the names of predicates and functions, and numbers that two make.
-/
import Derived.Test.YtlblbghlchedpaaDoorPure
import Derived.Lib.Hide
namespace Go.Proofs.YtlblbghlchedpaaDoor
open Go.RowKit

/-- bytes of a text -/
abbrev Bt := List UInt8
/-- the families: their names, in their order -/
def fam0 : List Bt := [[61], [33, 61], [60], [60, 61], [62], [62, 61], [98, 101, 103, 105, 110, 115], [101, 110, 100, 115], [104, 97, 115], [107, 105, 110, 100]]
def fam1 : List Bt := [[43], [45], [42], [47], [109, 111, 100], [109, 105, 110], [109, 97, 120], [99, 97, 116]]
def fam2 : List Bt := [[110, 101, 103], [97, 98, 115], [108, 101, 110], [116, 101, 120, 116], [118, 97, 108, 117, 101], [110, 117, 109, 98, 101, 114], [116, 105, 109, 101], [110, 97, 109, 101]]
def fam3 : List Bt := [[115, 117, 98]]
def famN (k : Nat) : List Bt := if k = 0 then fam0 else if k = 1 then fam1 else if k = 2 then fam2 else if k = 3 then fam3 else []
def famP (k : Nat) : Bool := k == 0
def famT (k : Nat) : Int := if k = 2 then 1 else if k = 3 then 3 else 2
/-- what is told: each name with its family's place -/
def toldC : List (Bt × Fin 4) := (List.finRange 4).flatMap fun k => (famN k.val).map fun s => (s, k)
/-- what is known of a name -/
def knownC (s : Bt) : Int × Bool × Bool :=
  match toldC.find? (fun x => x.1 == s) with
  | some x => (famT x.2.val, famP x.2.val, true)
  | none => (0, false, false)
/-- all names, in the order of their bytes -/
def namesC : List Bt := [[33, 61], [42], [43], [45], [47], [60], [60, 61], [61], [62], [62, 61], [97, 98, 115], [98, 101, 103, 105, 110, 115], [99, 97, 116], [101, 110, 100, 115], [104, 97, 115], [107, 105, 110, 100], [108, 101, 110], [109, 97, 120], [109, 105, 110], [109, 111, 100], [110, 97, 109, 101], [110, 101, 103], [110, 117, 109, 98, 101, 114], [115, 117, 98], [116, 101, 120, 116], [116, 105, 109, 101], [118, 97, 108, 117, 101]]

theorem known_none {s : Bt} (h : s ∉ namesC) : knownC s = (0, false, false) := by
  unfold knownC
  have : toldC.find? (fun x => x.1 == s) = none := by
    rw [List.find?_eq_none]
    intro x hx he
    have e : x.1 = s := by simpa using he
    have hm : ∀ x ∈ toldC, x.1 ∈ namesC := by decide +kernel
    exact h (e ▸ hm x hx)
  rw [this]

/-! numbers -/
def leastN : Int := -9223372036854775808
def mostN : Int := 9223372036854775807
/-- a number, if it is one -/
def fitI (x : Int) : Option Int := if leastN ≤ x ∧ x ≤ mostN then some x else none
def divI (a b : Int) : Option Int := if b = 0 ∨ (a = leastN ∧ b = -1) then none else some (a.tdiv b)
def modI (a b : Int) : Option Int := if b = 0 ∨ (a = leastN ∧ b = -1) then none else some (a.tmod b)

/-- what is left of a number in 64 bits -/
def wr (x : Int) : Int := (x + 9223372036854775808) % 18446744073709551616 - 9223372036854775808
theorem wr_in {x : Int} (h : leastN ≤ x ∧ x ≤ mostN) : wr x = x := by unfold wr; unfold leastN mostN at h; omega
theorem wr_bound (x : Int) : leastN ≤ wr x ∧ wr x ≤ mostN := by unfold wr leastN mostN; omega
/-- the closure over signs -/
def sgB (alike : Bool) (n : Int) (below : Bool) : Bool := !alike || (decide (n < 0) == below)
def In6 (x : Int) : Prop := leastN ≤ x ∧ x ≤ mostN
theorem fit_yes {x : Int} (h : In6 x) : fitI x = some x := if_pos h
theorem fit_no {x : Int} (h : ¬ In6 x) : fitI x = none := if_neg h
theorem add_sg {a b : Int} (ha : In6 a) (hb : In6 b) : sgB (decide (a < 0) == decide (b < 0)) (wr (a + b)) (decide (a < 0)) = (fitI (a + b)).isSome := by
  unfold In6 leastN mostN at ha hb
  by_cases hf : In6 (a + b)
  · rw [fit_yes hf]
    unfold In6 leastN mostN at hf
    have e : wr (a + b) = a + b := by unfold wr; omega
    rw [e]
    by_cases h1 : a < 0 <;> by_cases h2 : b < 0 <;> by_cases h3 : a + b < 0 <;> simp [sgB, h1, h2, h3] <;> omega
  · rw [fit_no hf]
    unfold In6 leastN mostN at hf
    obtain ⟨n, hn⟩ : ∃ n, wr (a + b) = n := ⟨_, rfl⟩
    have hn' := hn
    unfold wr at hn'
    rw [hn]
    by_cases h1 : a < 0 <;> by_cases h2 : b < 0 <;> by_cases h3 : n < 0 <;> simp [sgB, h1, h2, h3] <;> omega
theorem sub_sg {a b : Int} (ha : In6 a) (hb : In6 b) : sgB (!(decide (a < 0) == decide (b < 0))) (wr (a - b)) (decide (a < 0)) = (fitI (a - b)).isSome := by
  unfold In6 leastN mostN at ha hb
  by_cases hf : In6 (a - b)
  · rw [fit_yes hf]
    unfold In6 leastN mostN at hf
    have e : wr (a - b) = a - b := by unfold wr; omega
    rw [e]
    by_cases h1 : a < 0 <;> by_cases h2 : b < 0 <;> by_cases h3 : a - b < 0 <;> simp [sgB, h1, h2, h3] <;> omega
  · rw [fit_no hf]
    unfold In6 leastN mostN at hf
    obtain ⟨n, hn⟩ : ∃ n, wr (a - b) = n := ⟨_, rfl⟩
    have hn' := hn
    unfold wr at hn'
    rw [hn]
    by_cases h1 : a < 0 <;> by_cases h2 : b < 0 <;> by_cases h3 : n < 0 <;> simp [sgB, h1, h2, h3] <;> omega
theorem fit_wr {x n : Int} (h : fitI x = some n) : wr x = n := by
  unfold fitI at h
  split at h
  · cases h; exact wr_in ‹_›
  · cases h
theorem fit_in {x n : Int} (h : fitI x = some n) : In6 n ∧ n = x := by
  unfold fitI at h
  split at h
  · cases h; exact ⟨‹_›, rfl⟩
  · cases h
theorem tdiv_mod_lt {n b : Int} (hb : b ≠ 0) : (n.tmod b).natAbs < b.natAbs := by
  have := Int.natAbs_tmod n b
  rw [this]
  exact Nat.mod_lt _ (by omega)
theorem tdiv_in {n b : Int} (hn : In6 n) (hb : b ≠ 0) (h : ¬ (n = leastN ∧ b = -1)) : In6 (n.tdiv b) := by
  have h1 := Int.natAbs_tdiv n b
  unfold In6 leastN mostN at *
  by_cases hb1 : b.natAbs = 1
  · rcases Int.natAbs_eq b with e | e
    · rw [hb1] at e; subst e; rw [show ((1 : Nat) : Int) = 1 from rfl, Int.tdiv_one]; exact hn
    · rw [hb1] at e; subst e
      rw [show (-((1 : Nat) : Int)) = -1 from rfl, Int.tdiv_neg, Int.tdiv_one]
      have : n ≠ -9223372036854775808 := fun e => h ⟨e, rfl⟩
      omega
  · have h2 : 2 ≤ b.natAbs := by omega
    have h4 : n.natAbs / b.natAbs ≤ n.natAbs / 2 := Nat.div_le_div_left h2 (by decide)
    have h3 : (n.tdiv b).natAbs ≤ n.natAbs / 2 := by rw [h1]; exact h4
    omega
theorem mul_sg {a b : Int} (ha : In6 a) (hb : In6 b) :
    (sgB (decide (a < 0) == decide (b < 0)) (wr (a * b)) false && (decide (b = 0) || decide (wr ((wr (a * b)).tdiv b) = a))) = (fitI (a * b)).isSome := by
  by_cases hb0 : b = 0
  · subst hb0
    have : fitI (a * 0) = some 0 := by rw [Int.mul_zero]; decide
    rw [this, Int.mul_zero]
    have e : wr 0 = 0 := by decide
    rw [e]
    simp [sgB]
  · rw [decide_eq_false hb0, Bool.false_or]
    by_cases hf : In6 (a * b)
    · rw [fit_yes hf, wr_in hf, Int.mul_tdiv_cancel _ hb0, wr_in ha]
      have hs : sgB (decide (a < 0) == decide (b < 0)) (a * b) false = true := by
        by_cases h1 : a < 0 <;> by_cases h2 : b < 0
        · have : 0 ≤ a * b := Int.mul_nonneg_of_nonpos_of_nonpos (by omega) (by omega)
          simp [sgB, h1, h2]; omega
        · simp [sgB, h1, h2]
        · simp [sgB, h1, h2]
        · have : 0 ≤ a * b := Int.mul_nonneg (by omega) (by omega)
          simp [sgB, h1, h2]; omega
      rw [hs]; simp
    · rw [fit_no hf]
      obtain ⟨n, hn⟩ : ∃ n, wr (a * b) = n := ⟨_, rfl⟩
      have hin := wr_bound (a * b)
      rw [hn] at hin ⊢
      show _ = false
      rw [Bool.and_eq_false_iff]
      by_cases hx : n = leastN ∧ b = -1
      · obtain ⟨rfl, rfl⟩ := hx
        by_cases h1 : a < 0
        · left; simp [sgB, h1, leastN]
        · right
          rw [decide_eq_false_iff_not]
          intro e
          have : wr ((leastN).tdiv (-1)) = leastN := by decide
          rw [this] at e
          unfold leastN at e
          omega
      · right
        rw [decide_eq_false_iff_not]
        intro e
        rw [wr_in (tdiv_in hin hb0 hx)] at e
        have h1 := Int.tmod_add_mul_tdiv n b
        have h2 := tdiv_mod_lt (n := n) hb0
        rw [e, Int.mul_comm] at h1
        obtain ⟨p, hp⟩ : ∃ p, a * b = p := ⟨_, rfl⟩
        rw [hp] at h1 hn hf
        unfold wr at hn
        unfold In6 leastN mostN at hf hb
        unfold leastN mostN at hin
        omega
theorem div_sg {a b : Int} (ha : In6 a) (hb0 : b ≠ 0) : sgB (decide (a < 0) == decide (b < 0)) (wr (a.tdiv b)) false = (divI a b).isSome := by
  unfold divI
  by_cases hx : a = leastN ∧ b = -1
  · obtain ⟨rfl, rfl⟩ := hx
    decide
  · have : ¬ (b = 0 ∨ (a = leastN ∧ b = -1)) := fun h => h.elim hb0 hx
    rw [if_neg this, wr_in (tdiv_in ha hb0 hx)]
    show _ = true
    by_cases h1 : a < 0 <;> by_cases h2 : b < 0
    · have : 0 ≤ a.tdiv b := by
        have := Int.tdiv_nonneg (a := -a) (b := -b) (by omega) (by omega)
        rwa [Int.neg_tdiv_neg] at this
      simp [sgB, h1, h2]; omega
    · simp [sgB, h1, h2]
    · simp [sgB, h1, h2]
    · have : 0 ≤ a.tdiv b := Int.tdiv_nonneg (by omega) (by omega)
      simp [sgB, h1, h2]; omega
theorem div_wr {a b n : Int} (ha : In6 a) (h : divI a b = some n) : wr (a.tdiv b) = n := by
  unfold divI at h
  split at h
  · cases h
  · rename_i hn
    cases h
    exact wr_in (tdiv_in (n := a) (b := b) ha (fun e => hn (Or.inl e)) (fun e => hn (Or.inr e)))
theorem mod_in {a b n : Int} (hb : In6 b) (h : modI a b = some n) : In6 n := by
  unfold modI at h
  split at h
  · cases h
  · rename_i hn
    cases h
    have := tdiv_mod_lt (n := a) (b := b) (fun e => hn (Or.inl e))
    unfold In6 leastN mostN at *
    omega

/-! the document's -/
/-- the sum of two numbers, if it is one -/
theorem sum_no {a b : Int} (h : (b > 0 ∧ a > mostN - b) ∨ (b < 0 ∧ a < leastN - b)) : fitI (a + b) = none :=
  fit_no (by unfold In6 leastN mostN at *; omega)
theorem sum_yes {a b : Int} (ha : In6 a) (h : ¬ ((b > 0 ∧ a > mostN - b) ∨ (b < 0 ∧ a < leastN - b))) : fitI (a + b) = some (a + b) :=
  fit_yes (by unfold In6 leastN mostN at *; omega)
theorem prod_pos {a b : Int} (hb : 0 < b) : In6 (a * b) ↔ ¬ (a > mostN.tdiv b ∨ a < leastN.tdiv b) := by
  have e1 : mostN.tdiv b = mostN / b := Int.tdiv_eq_ediv_of_nonneg (by decide)
  have e2 : leastN.tdiv b = -((9223372036854775808 : Int) / b) := by
    rw [show leastN = -(9223372036854775808 : Int) from rfl, Int.neg_tdiv, Int.tdiv_eq_ediv_of_nonneg (by decide)]
  have h1 := Int.le_ediv_iff_mul_le (a := a) (b := mostN) hb
  have h2 := Int.le_ediv_iff_mul_le (a := -a) (b := 9223372036854775808) hb
  rw [Int.neg_mul] at h2
  rw [e1, e2]
  unfold In6
  constructor
  · rintro ⟨g1, g2⟩
    have k1 := h1.2 g2
    have k2 := h2.2 (by unfold leastN at g1; omega)
    omega
  · intro h
    have k1 := h1.1 (by omega)
    have k2 := h2.1 (by omega)
    exact ⟨by unfold leastN; omega, k1⟩
theorem prod_neg {a b : Int} (hb : b < 0) : In6 (a * b) ↔ ¬ (a < mostN.tdiv b ∨ a > leastN.tdiv b) := by
  obtain ⟨c, rfl⟩ : ∃ c, b = -c := ⟨-b, by omega⟩
  have hc : 0 < c := by omega
  have e1 : mostN.tdiv (-c) = -(mostN / c) := by rw [Int.tdiv_neg, Int.tdiv_eq_ediv_of_nonneg (by decide)]
  have e2 : leastN.tdiv (-c) = (9223372036854775808 : Int) / c := by
    rw [show leastN = -(9223372036854775808 : Int) from rfl, Int.neg_tdiv_neg, Int.tdiv_eq_ediv_of_nonneg (by decide)]
  have h1 := Int.le_ediv_iff_mul_le (a := -a) (b := mostN) hc
  have h2 := Int.le_ediv_iff_mul_le (a := a) (b := 9223372036854775808) hc
  rw [Int.neg_mul] at h1
  rw [e1, e2, Int.mul_neg]
  unfold In6
  constructor
  · rintro ⟨g1, g2⟩
    have k1 := h1.2 g2
    have k2 := h2.2 (by unfold leastN at g1; omega)
    omega
  · intro h
    have k1 := h1.1 (by omega)
    have k2 := h2.1 (by omega)
    exact ⟨by unfold leastN; omega, k1⟩
end Go.Proofs.YtlblbghlchedpaaDoor
