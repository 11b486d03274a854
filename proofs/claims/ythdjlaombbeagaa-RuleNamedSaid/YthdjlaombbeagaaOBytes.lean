/-
  CONTRACTS: Bytes (how bytes stand, the document's); alive (the chapter's first examples).
-/
import Derived.Test.YthdjlaombbeagaaOEnd
import Derived.Deep.QuietTactic
import Derived.BigQuiet
import Derived.Deep.Draws
namespace Go.Proofs.Ythdjlaombbeagaa
open Go.RowKit Go.Shelf

theorem below_dn {B : Nat} {a w : World} (h : Below B a w) (n : Nat) : Below B a (w.drewN n) := ⟨h.os, h.tape, h.output, h.size, h.block⟩
/-- how bytes stand from a place on -/
def ordFrom (a b : List UInt8) (k : Nat) : Int := ordL (a.drop k) (b.drop k)
theorem ordFrom_lt {a b : List UInt8} {k : Nat} (h : k < a.length) (h' : k < b.length) (hc : (a[k].toNat : Int) < b[k].toNat) : ordFrom a b k = -1 := by
  unfold ordFrom; rw [List.drop_eq_getElem_cons h, List.drop_eq_getElem_cons h', ordL_cons, if_pos (by omega)]
theorem ordFrom_gt {a b : List UInt8} {k : Nat} (h : k < a.length) (h' : k < b.length) (hc : (b[k].toNat : Int) < a[k].toNat) : ordFrom a b k = 1 := by
  unfold ordFrom; rw [List.drop_eq_getElem_cons h, List.drop_eq_getElem_cons h', ordL_cons, if_neg (by omega), if_pos (by omega)]
theorem ordFrom_eq {a b : List UInt8} {k : Nat} (h : k < a.length) (h' : k < b.length) (h1 : (a[k].toNat : Int) = b[k].toNat) : ordFrom a b k = ordFrom a b (k + 1) := by
  unfold ordFrom; rw [List.drop_eq_getElem_cons h, List.drop_eq_getElem_cons h', ordL_cons, if_neg (by omega), if_neg (by omega)]
theorem ordFrom_end {a b : List UInt8} {k : Nat} (h : k ≤ a.length) (h' : k ≤ b.length) (he : k = a.length ∨ k = b.length) :
    ordFrom a b k = if a.length < b.length then -1 else if b.length < a.length then 1 else 0 := by
  unfold ordFrom
  rcases he with rfl | rfl
  · rw [List.drop_length]
    by_cases h2 : a.length < b.length
    · rw [List.drop_eq_getElem_cons h2, if_pos h2]; rfl
    · rw [List.drop_of_length_le (by omega), if_neg h2, if_neg (by omega)]; rfl
  · rw [List.drop_length]
    by_cases h2 : b.length < a.length
    · rw [List.drop_eq_getElem_cons h2, if_neg (by omega), if_pos h2]; rfl
    · rw [List.drop_of_length_le (by omega), if_neg (by omega), if_neg h2]; rfl

theorem drew2 (w : World) (n k : Nat) : ∃ m, (w.drewN n).drewN k = w.drewN m := ⟨n + k, World.drewN_drewN w n k⟩
theorem drew3 (w : World) (n k i : Nat) : ∃ m, ((w.drewN n).drewN k).drewN i = w.drewN m := ⟨n + k + i, by rw [World.drewN_drewN, World.drewN_drewN, Nat.add_assoc]⟩

end Go.Proofs.Ythdjlaombbeagaa
