/-
  CONTRACTS: slices that came in; slices.Clone; slices.Backward, handed to a loop.
-/
import Derived.RangeFuncNested
import Derived.RangeFuncBound
import Derived.RangeFuncCalls
import Derived.RangeFuncLeaves
import Derived.RangeFuncBox
import Derived.Shelf.Abstract
import Derived.Shelf.RegionOpen
import Derived.OwnWalkIn
import Derived.TacticsInMore
import Derived.LoopNIn
import Derived.LoopIn
import Derived.Test.YtlmihlepaoifiaaJOKey
namespace Go.Proofs.Ytlmihlepaoifiaa
open Go.RowKit Go.Shelf
attribute [local go_sem] Oper.semAt_some

/-- a slice that reads as these bytes, in blocks below B -/
def SlB (W : World) (B : Nat) (A : Option Addr) (l : List UInt8) : Prop :=
  l ≠ [] → ∃ a, A = some a ∧ a.block < B ∧ ∀ (j : Nat) (x : UInt8), l[j]? = some x → W.cell? (a.add j) = some (.int .u8 x.toNat)
theorem add_block (a : Addr) (j : Nat) : (a.add j).block = a.block := by unfold Addr.add; split <;> rfl
theorem SlB.next {W W' : World} {B : Nat} {A : Option Addr} {l : List UInt8} (h : SlB W B A l) {B' : Nat} (hb : Below B' W W') (hB : B ≤ B') : SlB W' B A l := fun hl => by
  obtain ⟨a, e, hlt, hc⟩ := h hl
  exact ⟨a, e, hlt, fun j x hx => (hb.cell (p := a.add j) (by rw [add_block]; omega)).trans (hc j x hx)⟩
theorem SlB.take {W : World} {B : Nat} {A : Option Addr} {l : List UInt8} (h : SlB W B A l) (n : Nat) : SlB W B A (l.take n) := fun hl => by
  have h0 : l ≠ [] := fun e => hl (by rw [e]; simp)
  obtain ⟨a, e, hlt, hc⟩ := h h0
  refine ⟨a, e, hlt, fun j x hx => hc j x ?_⟩
  rw [List.getElem?_take] at hx
  split at hx
  · exact hx
  · cases hx
/-- a place, and the byte that stands there -/
structure Pl (l : List UInt8) where
  i : Nat
  c : UInt8
  at_ : l[i]? = some c
/-- What lay below n₀, and in block Bt, lies. -/
structure Keeps (n₀ Bt : Nat) (A B : World) : Prop where
  low : Below n₀ A B
  box : B.heap[Bt]? = A.heap[Bt]?
theorem Keeps.refl (n₀ Bt : Nat) (A : World) : Keeps n₀ Bt A A := ⟨Below.refl _ _, rfl⟩
theorem Keeps.trans {n₀ Bt : Nat} {A B C : World} (h : Keeps n₀ Bt A B) (k : Keeps n₀ Bt B C) : Keeps n₀ Bt A C := ⟨h.low.trans k.low, k.box.trans h.box⟩
theorem Keeps.cell {n₀ Bt : Nat} {A B : World} (h : Keeps n₀ Bt A B) (i : Nat) : B.cell? ⟨Bt, i, none⟩ = A.cell? ⟨Bt, i, none⟩ := World.cell?_of_block (w := A) (a := ⟨Bt, i, none⟩) h.box
theorem wide_deep (k : Nat) : Fence.wide.depth.isSome = true → 1 ≤ k := fun h => by cases h
theorem wide_room (k : Nat) : Fence.wide.room k := fun d h => by cases h
theorem RoundIn.anyDepth {m m' : Nat} {P : Program} {l : Nat} {f : FuncId} {tmps : Array Value} {assign body : Code} {w : World} {R : Ending → World → Prop}
    (h : RoundIn Fence.wide m P l f tmps assign body w R) : RoundIn Fence.wide m' P l f tmps assign body w R := ⟨h.1, fun c cs _ => h.2 c cs (wide_room _)⟩
theorem YieldAt.anyDepth {m : Nat} (m' : Nat) {P : Program} {l : Nat} {args : Array Value} {W : World} {R : Ending → World → Prop} (h : YieldAt Fence.wide m P l args W R) : YieldAt Fence.wide m' P l args W R := by
  obtain ⟨fn, tmps, assign, body, hy, hR⟩ := h
  exact ⟨fn, tmps, assign, body, hy, RoundIn.anyDepth hR⟩
end Go.Proofs.Ytlmihlepaoifiaa
