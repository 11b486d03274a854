/-
  CONTRACT: told (two sets' spans together).
-/
import Derived.Test.YtecolajhahmfcaaDoorSLeaf
import Derived.Test.YtecolajhahmfcaaDoorOBack
import Derived.RangeFuncNested
import Derived.OwnWalkIn
namespace Go.Proofs.YtecolajhahmfcaaDoor
open Go.RowKit Go.Shelf

/-- what the iterator hands on -/
def toldV (x : Sp × Nat) : Array Value := #[.agg #[.int .i64 x.1.1, .int .i64 x.1.2], .int .i64 (x.2 : Int)]
/-- One round of the loop that is handed spans. -/
def HandsS (B l N : Nat) (J Jx : List (Sp × Nat) → World → Prop) : Prop :=
  ∀ m pre (x : Sp × Nat) W, J pre W → pre.length < N → YieldAt Fence.wide m Tryd.prog l #[.agg #[.int .i64 x.1.1, .int .i64 x.1.2], .int .i64 (x.2 : Int)] W fun e W' =>
    (e = .returned (.bool true) ∧ J (pre ++ [x]) W' ∧ Below B W W') ∨ (e = .returned (.bool false) ∧ Jx (pre ++ [x]) W')
theorem abides_to {α : Type} {B : Nat} {J : List α → World → Prop} (hJ : AbidesFrom B J) {p : List α} {w w' : World} (h : J p w) (hb : Below w.heap.size w w') : J p w' :=
  hJ p w w' none h ⟨hb.os, hb.tape, hb.output, hb.size, fun k hk _ => hb.block k hk⟩ (fun r e => by cases e)
theorem turn_in64 {l : List Sp} {t : Int} (h : Live l t) (ht : t ≤ maxT) (hm : minT ≤ t) : minT ≤ turnI l t ∧ turnI l t ≤ maxT := by
  by_cases h1 : t < maxT
  · have := turn_gt h h1; omega
  · cases l with
    | nil => exact ⟨by show minT ≤ maxT; decide, Int.le_refl _⟩
    | cons s r => have := live_max h (by simp); omega
theorem told_step0 {a b ca cb : List Sp} {t T : Int} {pre : List (Sp × Nat)} (h : ∀ r, Told ca cb t r → Told a b minT (pre ++ r)) (hT : toI ca cb t = T) (hn : ¬ (ca = [] ∧ cb = [])) (ha : begunB ca t = false) (hb : begunB cb t = false) :
    ∀ r, Told (behindL ca T) (behindL cb T) T r → Told a b minT (pre ++ r) := fun r hr => by
  subst hT
  have := h _ (Told.next hn hr)
  rw [ha, hb] at this
  exact this
theorem told_step1 {a b ca cb : List Sp} {t T : Int} {pre : List (Sp × Nat)} {x y : Bool} {who : Nat} (h : ∀ r, Told ca cb t r → Told a b minT (pre ++ r)) (hT : toI ca cb t = T) (hn : ¬ (ca = [] ∧ cb = [])) (ha : begunB ca t = x) (hb : begunB cb t = y) (hw : whoN x y = who) (h0 : who ≠ 0) :
    ∀ r, Told (behindL ca T) (behindL cb T) T r → Told a b minT (pre ++ [((t, T), who)] ++ r) := fun r hr => by
  subst hT
  have := h _ (Told.next hn hr)
  rw [ha, hb, hw, if_neg h0] at this
  rwa [List.append_assoc]
theorem SlS.back {W W' : World} {A : Option Addr} {l : List Sp} (B : Nat) (h : SlS W' B A l) (hb : Below B W W') : SlS W B A l := fun hl => by
  obtain ⟨b, o, e, hlt, hc⟩ := h hl
  exact ⟨b, o, e, hlt, fun j s hs => ⟨(hb.cell (p := ⟨b, _, none⟩) hlt).symm.trans (hc j s hs).c0, (hb.cell (p := ⟨b, _, none⟩) hlt).symm.trans (hc j s hs).c1⟩⟩
theorem whole_len {l : List Sp} : ((l.length : Int) = 0) = (l = []) := by
  refine propext ⟨fun h => List.length_eq_zero_iff.1 (by omega), fun h => by rw [h]; rfl⟩

end Go.Proofs.YtecolajhahmfcaaDoor
