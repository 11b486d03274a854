/-
  PLAIN: the order of values is one order (under a name of its own, for the seat that holds OPure too).
-/
import Derived.Test.YtofmfainhflmmaaPure
namespace Go.Proofs.Ytofmfainhflmmaa.VOrd
open Go.RowKit

structure IsOrd {α : Type} (o : α → α → Int) : Prop where
  range : ∀ a b, o a b = -1 ∨ o a b = 0 ∨ o a b = 1
  zero : ∀ a b, o a b = 0 ↔ a = b
  swap : ∀ a b, o b a = - o a b
  trans : ∀ a b c, o a b ≤ 0 → o b c ≤ 0 → o a c ≤ 0

def lexO {α β : Type} (o : α → α → Int) (p : β → β → Int) (x y : α × β) : Int := if o x.1 y.1 = 0 then p x.2 y.2 else o x.1 y.1

theorem IsOrd.lt {α : Type} {o : α → α → Int} (h : IsOrd o) {a b c : α} (h1 : o a b < 0) (h2 : o b c ≤ 0) : o a c < 0 := by
  have h3 := h.trans a b c (by omega) h2
  rcases Int.lt_or_le (o a c) 0 with h4 | h4
  · exact h4
  · have h5 : a = c := (h.zero a c).1 (by omega)
    subst h5
    have h6 := h.swap a b
    omega
theorem IsOrd.lt' {α : Type} {o : α → α → Int} (h : IsOrd o) {a b c : α} (h1 : o a b ≤ 0) (h2 : o b c < 0) : o a c < 0 := by
  have h3 := h.trans a b c h1 (by omega)
  rcases Int.lt_or_le (o a c) 0 with h4 | h4
  · exact h4
  · have h5 : a = c := (h.zero a c).1 (by omega)
    subst h5
    have h6 := h.swap a b
    omega

theorem ordI_is : IsOrd ordI where
  range := ordI_range
  zero := fun _ _ => ordI_zero
  swap := fun a b => by
    unfold ordI
    by_cases h1 : a < b
    · rw [if_neg (by omega), if_pos h1, if_pos h1]; rfl
    · by_cases h2 : b < a
      · rw [if_pos h2, if_neg h1, if_pos h2]
      · rw [if_neg h2, if_neg h1, if_neg h1, if_neg h2]; rfl
  trans := fun a b c h1 h2 => by
    unfold ordI at *
    by_cases k1 : a < c
    · rw [if_pos k1]; omega
    · rw [if_neg k1]
      by_cases k2 : c < a
      · exfalso
        by_cases k3 : b < a
        · rw [if_neg (by omega), if_pos k3] at h1; omega
        · by_cases k4 : c < b
          · rw [if_neg (by omega), if_pos k4] at h2; omega
          · omega
      · rw [if_neg k2]; omega

theorem lex_is {α β : Type} {o : α → α → Int} {p : β → β → Int} (ho : IsOrd o) (hp : IsOrd p) : IsOrd (lexO o p) where
  range := fun a b => by
    unfold lexO; split
    · exact hp.range _ _
    · exact ho.range _ _
  zero := fun a b => by
    unfold lexO; split
    · rename_i h
      rw [hp.zero]
      have := (ho.zero _ _).1 h
      constructor
      · intro h2; exact Prod.ext this h2
      · intro h2; rw [h2]
    · rename_i h
      constructor
      · intro h2; exact absurd h2 h
      · intro h2; rw [h2] at h; exact absurd ((ho.zero _ _).2 rfl) h
  swap := fun a b => by
    unfold lexO
    have h := ho.swap a.1 b.1
    by_cases k : o a.1 b.1 = 0
    · rw [if_pos (by omega), if_pos k]; exact hp.swap _ _
    · rw [if_neg (by omega), if_neg k]; exact h
  trans := fun a b c h1 h2 => by
    unfold lexO at *
    have r1 := ho.range a.1 b.1
    have r2 := ho.range b.1 c.1
    by_cases k1 : o a.1 b.1 = 0
    · have e1 := (ho.zero _ _).1 k1
      rw [if_pos k1] at h1
      by_cases k2 : o b.1 c.1 = 0
      · rw [if_pos k2] at h2
        rw [e1, if_pos k2]; exact hp.trans _ _ _ h1 h2
      · rw [if_neg k2] at h2
        rw [e1, if_neg k2]; exact h2
    · rw [if_neg k1] at h1
      have h3 : o b.1 c.1 ≤ 0 := by
        by_cases k2 : o b.1 c.1 = 0
        · omega
        · rw [if_neg k2] at h2; exact h2
      have h4 := ho.lt (a := a.1) (b := b.1) (c := c.1) (by omega) h3
      rw [if_neg (by omega)]; omega

theorem ordL_cons (x y : UInt8) (l r : List UInt8) : ordL (x :: l) (y :: r) = lexO (fun a b : UInt8 => ordI a.toNat b.toNat) ordL (x, l) (y, r) := by
  unfold lexO ordI
  show (if x.toNat < y.toNat then -1 else if y.toNat < x.toNat then 1 else ordL l r) = _
  by_cases h1 : x.toNat < y.toNat
  · have h1' : (x.toNat : Int) < y.toNat := by omega
    simp [h1]
  · by_cases h2 : y.toNat < x.toNat
    · simp [h1, h2]
    · simp [h1, h2]

theorem ordB_is : IsOrd (fun a b : UInt8 => ordI a.toNat b.toNat) where
  range := fun _ _ => ordI_range _ _
  zero := fun a b => by
    rw [ordI_zero]
    constructor
    · intro h; exact UInt8.toNat_inj.1 (by omega)
    · intro h; rw [h]
  swap := fun a b => ordI_is.swap _ _
  trans := fun a b c => ordI_is.trans _ _ _

theorem ordL_zero : ∀ (l r : List UInt8), ordL l r = 0 ↔ l = r
  | [], [] => by simp [ordL]
  | [], _ :: _ => by simp [ordL]
  | _ :: _, [] => by simp [ordL]
  | x :: l, y :: r => by
    rw [ordL_cons]
    unfold lexO
    have ih := ordL_zero l r
    by_cases h : ordI (x.toNat : Int) y.toNat = 0
    · simp only [h, if_true]
      have e := (ordB_is.zero x y).1 h
      rw [ih, e]; simp
    · simp only [h, if_false]
      constructor
      · intro h2; exact h2.elim
      · intro h2; injection h2 with h3 _; rw [h3] at h; exact h (ordI_zero.2 rfl)
theorem ordL_swap : ∀ (l r : List UInt8), ordL r l = - ordL l r
  | [], [] => by simp [ordL]
  | [], _ :: _ => by simp [ordL]
  | _ :: _, [] => by simp [ordL]
  | x :: l, y :: r => by
    rw [ordL_cons, ordL_cons]
    unfold lexO
    have ih := ordL_swap l r
    have h : ordI (y.toNat : Int) x.toNat = - ordI (x.toNat : Int) y.toNat := ordB_is.swap x y
    by_cases k : ordI (x.toNat : Int) y.toNat = 0
    · simp only [k, if_true]
      rw [k] at h
      simp only [h, Int.neg_zero, if_true]; exact ih
    · simp only [k, if_false]
      rw [if_neg (by omega)]; exact h
theorem ordL_trans : ∀ (l r t : List UInt8), ordL l r ≤ 0 → ordL r t ≤ 0 → ordL l t ≤ 0
  | [], _, [] => by simp [ordL]
  | [], _, _ :: _ => by simp [ordL]
  | _ :: _, [], _ => by simp [ordL]
  | _ :: _, _ :: _, [] => by simp [ordL]
  | x :: l, y :: r, z :: t => by
    rw [ordL_cons, ordL_cons, ordL_cons]
    unfold lexO
    simp only
    intro h1 h2
    by_cases k1 : ordI (x.toNat : Int) y.toNat = 0
    · have e1 := (ordB_is.zero x y).1 k1
      rw [if_pos k1] at h1
      subst e1
      by_cases k2 : ordI (x.toNat : Int) z.toNat = 0
      · rw [if_pos k2] at h2
        rw [if_pos k2]; exact ordL_trans l r t h1 h2
      · rw [if_neg k2] at h2
        rw [if_neg k2]; exact h2
    · rw [if_neg k1] at h1
      have h3 : ordI (y.toNat : Int) z.toNat ≤ 0 := by
        by_cases k2 : ordI (y.toNat : Int) z.toNat = 0
        · omega
        · rw [if_neg k2] at h2; exact h2
      have h4 := ordI_is.lt (a := (x.toNat : Int)) (b := (y.toNat : Int)) (c := (z.toNat : Int)) (by omega) h3
      rw [if_neg (by omega)]; omega
theorem ordL_is : IsOrd ordL := ⟨ordL_range, ordL_zero, ordL_swap, ordL_trans⟩
theorem ordS_is : IsOrd ordS where
  range := fun _ _ => ordL_range _ _
  zero := fun a b => by
    unfold ordS; rw [ordL_zero]
    constructor
    · intro h; exact ByteArray.ext (Array.toList_inj.1 h)
    · intro h; rw [h]
  swap := fun _ _ => ordL_swap _ _
  trans := fun _ _ _ => ordL_trans _ _ _

def ordT (a b : Int × (Int × ByteArray)) : Int := ordV a.1 a.2.1 a.2.2 b.1 b.2.1 b.2.2
theorem ordT_is : IsOrd ordT := lex_is ordI_is (lex_is ordI_is ordS_is)

end Go.Proofs.Ytofmfainhflmmaa.VOrd
