import Derived.Test.YtlmihlepaoifiaaGreatJFMay
import Derived.Test.YtlmihlepaoifiaaGreatJHBy
import Derived.Test.YtlmihlepaoifiaaGreatJFThen
import Derived.Test.YtlmihlepaoifiaaGreatJOArgs
/-
  CONTRACTS: slices.Clone at spans; facts.Spans.
-/
namespace Go.Proofs.YtlmihlepaoifiaaGreat
open Go.RowKit Go.Shelf

/-- a value in a box -/
def VBx (W : World) (b : Nat) (k m : Int) (s : ByteArray) : Prop := W.heap[b]? = some (.cells #[.int .i64 k, .int .i64 m, .string s] 28 (0, 0))
theorem VBx.cell {W : World} {b : Nat} {k m : Int} {s : ByteArray} (h : VBx W b k m s) (j : Nat) : W.cell? ⟨b, j, none⟩ = (#[Value.int .i64 k, .int .i64 m, .string s])[j]? := by unfold VBx at h; simp [World.cell?, h]
theorem VBx.k0 {W : World} {b : Nat} {k m : Int} {s : ByteArray} (h : VBx W b k m s) : W.cell? ⟨b, 0, none⟩ = some (.int .i64 k) := h.cell 0
theorem VBx.k1 {W : World} {b : Nat} {k m : Int} {s : ByteArray} (h : VBx W b k m s) : W.cell? ⟨b, 1, none⟩ = some (.int .i64 m) := h.cell 1
theorem VBx.k2 {W : World} {b : Nat} {k m : Int} {s : ByteArray} (h : VBx W b k m s) : W.cell? ⟨b, 2, none⟩ = some (.string s) := h.cell 2
theorem VBx.next {W W' : World} {b : Nat} {k m : Int} {s : ByteArray} (h : VBx W b k m s) (hb : Below W.heap.size W W') : VBx W' b k m s := (hb.block b (Array.getElem?_eq_some_iff.1 h).1).trans h
def FSS (w0 : World) (bx : Nat) (f : FactP) (sv : Value) (bv : Nat) (k m : Int) (s : ByteArray) (W : World) : Prop := FcBx W bx f sv ∧ SVa W sv f.l ∧ VBx W bv k m s ∧ Below w0.heap.size w0 W
theorem FSS.next {w0 W W' : World} {bx : Nat} {f : FactP} {sv : Value} {bv : Nat} {k m : Int} {s : ByteArray} (h : FSS w0 bx f sv bv k m s W) (hb : Below W.heap.size W W') : FSS w0 bx f sv bv k m s W' :=
  ⟨h.1.next hb, h.2.1.next hb, h.2.2.1.next hb, h.2.2.2.trans (hb.mono h.2.2.2.size)⟩
end Go.Proofs.YtlmihlepaoifiaaGreat

/-
  CONTRACTS: the closure that says changes, and the one that says both kinds of a triple's.
-/
namespace Go.Proofs.YtlmihlepaoifiaaGreat
open Go.RowKit Go.Shelf

/-- blocks of another type than datoms', but one, lie as they lay -/
def KeepT (Bl : Nat) (W W' : World) : Prop := W.heap.size ≤ W'.heap.size ∧ ∀ k cs t fr, k ≠ Bl → W.heap[k]? = some (Obj.cells cs t fr) → t ≠ 83 → W'.heap[k]? = some (Obj.cells cs t fr)
theorem KeepT.refl (Bl : Nat) (W : World) : KeepT Bl W W := ⟨Nat.le_refl _, fun _ _ _ _ _ h _ => h⟩
theorem KeepT.trans {Bl : Nat} {X Y Z : World} (h : KeepT Bl X Y) (k : KeepT Bl Y Z) : KeepT Bl X Z := ⟨Nat.le_trans h.1 k.1, fun i cs t fr h1 h2 h3 => k.2 i cs t fr h1 (h.2 i cs t fr h1 h2 h3) h3⟩
end Go.Proofs.YtlmihlepaoifiaaGreat

/-
  CONTRACTS: take, least and together of Changes.
-/
namespace Go.Proofs.YtlmihlepaoifiaaGreat
open Go.RowKit Go.Shelf

/-- all blocks but one lie as they lay -/
def KeepX (Bx : Nat) (W W' : World) : Prop := W.heap.size ≤ W'.heap.size ∧ ∀ k, k < W.heap.size → k ≠ Bx → W'.heap[k]? = W.heap[k]?
theorem KeepX.trans {Bx : Nat} {X Y Z : World} (h : KeepX Bx X Y) (k : KeepX Bx Y Z) : KeepX Bx X Z := ⟨Nat.le_trans h.1 k.1, fun i h1 h2 => (k.2 i (Nat.lt_of_lt_of_le h1 h.1) h2).trans (h.2 i h1 h2)⟩
def cutF (A : Option Addr) (c k : Nat) : Option Addr := if c = k then A else A.map (·.add (k * 6))
theorem FVa.tail {W : World} {A : Option Addr} {c : Nat} {f : FactP} {l : List FactP} (h : FVa W (.slice A (l.length + 1) c) (f :: l)) : FVa W (.slice (cutF A c 1) l.length (c - 1)) l := by
  obtain ⟨A2, c2, e, hs, h2, h3⟩ := h
  injection e with e1 e2 e3
  subst e1 e3
  rw [List.length_cons] at h2
  refine ⟨_, _, rfl, fun hl => ?_, by omega, by omega⟩
  obtain ⟨b, o, rfl, hlt, hc⟩ := hs (by simp)
  have hl0 := List.length_pos_iff.2 hl
  unfold cutF
  rw [if_neg (by omega)]
  refine ⟨b, o + 6, by show some (Addr.add ⟨b, o, none⟩ (1 * 6)) = _; rw [addI], hlt, fun j g hg => ?_⟩
  have := hc (j + 1) g (by simpa using hg)
  rwa [show o + (j + 1) * 6 = o + 6 + j * 6 by omega] at this

end Go.Proofs.YtlmihlepaoifiaaGreat

/-
  CONTRACT: least of two lists of facts.
-/
namespace Go.Proofs.YtlmihlepaoifiaaGreat
open Go.RowKit Go.Shelf

theorem TrAt.fz {W : World} {b : Nat} {e a k m : Int} {s : ByteArray} (h : TrAt W b e a k m s) (j : Nat) : W.frozen? ⟨b, j, none⟩ = false := by unfold TrAt at h; simp [World.frozen?, h]
def LstS (w : World) (bt : Nat) (b o : Nat) (f : FactP) (fv : Value) (b' o' : Nat) (g : FactP) (gv : Value) (W : World) : Prop := (TrAt W bt 0 0 0 0 ⟨#[]⟩ ∧ Below w.heap.size w W) ∧ FcV W b o f fv ∧ b < W.heap.size ∧ FcV W b' o' g gv ∧ b' < W.heap.size
theorem LstS.next {w W W' : World} {bt b o : Nat} {f : FactP} {fv : Value} {b' o' : Nat} {g : FactP} {gv : Value} (h : LstS w bt b o f fv b' o' g gv W) (hb : Below W.heap.size W W') : LstS w bt b o f fv b' o' g gv W' :=
  ⟨⟨h.1.1.next hb, h.1.2.trans (hb.mono h.1.2.size)⟩, h.2.1.next hb h.2.2.1, Nat.lt_of_lt_of_le h.2.2.1 hb.size, h.2.2.2.1.next hb h.2.2.2.2, Nat.lt_of_lt_of_le h.2.2.2.2 hb.size⟩
end Go.Proofs.YtlmihlepaoifiaaGreat

/-
  CONTRACTS: together and Changes.
-/
namespace Go.Proofs.YtlmihlepaoifiaaGreat
open Go.RowKit Go.Shelf

end Go.Proofs.YtlmihlepaoifiaaGreat
