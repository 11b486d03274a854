import Derived.Test.YthdjlaombbeagaaGreatJORdNum
import Derived.Test.YthdjlaombbeagaaGreatJOrdRef
import Derived.Test.YthdjlaombbeagaaGreatJRegion
import Derived.Shelf.Bytes.SlIndexAt
import Derived.Lib.IndexLaws
import Derived.WalkMore
import Derived.Laws.AppendOwnNone
import Derived.Test.YthdjlaombbeagaaGreatJOKey
import Derived.Test.YthdjlaombbeagaaGreatJOBack
import Derived.OwnWalkIn
import Derived.RangeFuncNested
import Derived.Test.YthdjlaombbeagaaGreatJOEnd
/-
  CONTRACT: Compare of two lists of parts (the document's).
-/
namespace Go.Proofs.YthdjlaombbeagaaGreat
open Go.RowKit Go.Shelf

/-- how two lists of parts stand from a place on -/
def ordPF (a b : List PartP) (j : Nat) : Int := ordK (a.drop j) (b.drop j)
theorem ordPF_step {a b : List PartP} {j : Nat} (h : j < a.length) (h' : j < b.length) : ordPF a b j = if ordP a[j] b[j] = 0 then ordPF a b (j + 1) else ordP a[j] b[j] := by
  unfold ordPF
  rw [List.drop_eq_getElem_cons h, List.drop_eq_getElem_cons h', ordK]
theorem ordPF_end {a b : List PartP} {j : Nat} (h : a.length ≤ j ∨ b.length ≤ j) : ordPF a b j = 0 := by
  unfold ordPF
  rcases h with h | h
  · rw [List.drop_of_length_le h]; cases b.drop j <;> rfl
  · rw [List.drop_of_length_le h]; cases a.drop j <;> rfl
theorem ordP_num {p q : PartP} (h : p.v = false) : ordP p q = ordI p.n q.n := by unfold ordP; rw [h]; rfl
theorem ordP_val {p q : PartP} (h : p.v = true) : ordP p q = ordV p.k p.m p.s q.k q.m q.s := by unfold ordP; rw [h]; rfl
theorem below_dr {B : Nat} {a w : World} (h : Below B a w) : Below B a w.drew := ⟨h.os, h.tape, h.output, h.size, h.block⟩

theorem s6n {B : Nat} {w W W' : World} {b b' o o' : Nat} {x0 x1 x2 y0 y1 y2 : Value} (hb : b < B) (hb' : b' < B)
    (h : W.cell? ⟨b, o + 2, none⟩ = some x0 ∧ W.cell? ⟨b, o + 2 + 1, none⟩ = some x1 ∧ W.cell? ⟨b, o + 2 + 2, none⟩ = some x2 ∧
      W.cell? ⟨b', o' + 2, none⟩ = some y0 ∧ W.cell? ⟨b', o' + 2 + 1, none⟩ = some y1 ∧ W.cell? ⟨b', o' + 2 + 2, none⟩ = some y2 ∧ Below B w W ∧ B ≤ W.heap.size)
    (hw : Below W.heap.size W W') :
    W'.cell? ⟨b, o + 2, none⟩ = some x0 ∧ W'.cell? ⟨b, o + 2 + 1, none⟩ = some x1 ∧ W'.cell? ⟨b, o + 2 + 2, none⟩ = some x2 ∧
      W'.cell? ⟨b', o' + 2, none⟩ = some y0 ∧ W'.cell? ⟨b', o' + 2 + 1, none⟩ = some y1 ∧ W'.cell? ⟨b', o' + 2 + 2, none⟩ = some y2 ∧ Below B w W' ∧ B ≤ W'.heap.size := by
  obtain ⟨h0, h1, h2, h3, h4, h5, h6, h7⟩ := h
  exact ⟨(hw.cell (p := ⟨b, o + 2, none⟩) (by show b < _; omega)).trans h0, (hw.cell (p := ⟨b, o + 2 + 1, none⟩) (by show b < _; omega)).trans h1, (hw.cell (p := ⟨b, o + 2 + 2, none⟩) (by show b < _; omega)).trans h2,
    (hw.cell (p := ⟨b', o' + 2, none⟩) (by show b' < _; omega)).trans h3, (hw.cell (p := ⟨b', o' + 2 + 1, none⟩) (by show b' < _; omega)).trans h4, (hw.cell (p := ⟨b', o' + 2 + 2, none⟩) (by show b' < _; omega)).trans h5,
    h6.trans (hw.mono (by omega)), by have := hw.size; omega⟩

end Go.Proofs.YthdjlaombbeagaaGreat

/-
  CONTRACT: readValue (the program's).
-/
namespace Go.Proofs.YthdjlaombbeagaaGreat
open Go.RowKit Go.Shelf

theorem ValAt.fz {W : World} {b : Nat} {k n : Int} {s : ByteArray} (h : ValAt W b k n s) (j : Nat) : W.frozen? ⟨b, j, none⟩ = false := by unfold ValAt at h; simp [World.frozen?, h]
theorem ValAt.far {W : World} {b b' j : Nat} {k n : Int} {s : ByteArray} (h : ValAt W b k n s) (hne : b ≠ b') (u : Value) : ValAt (W.setCell ⟨b', j, none⟩ u) b k n s :=
  (Below.heap_setCell W ⟨b', j, none⟩ u b hne).trans h
theorem ValAt.dr {W : World} {b : Nat} {k n : Int} {s : ByteArray} (h : ValAt W b k n s) : ValAt W.drew b k n s := h
end Go.Proofs.YthdjlaombbeagaaGreat

/-
  CONTRACT: readPart (the program's).
-/
namespace Go.Proofs.YthdjlaombbeagaaGreat
open Go.RowKit Go.Shelf

/-- a part as a whole -/
def partV (p : PartP) : Value := .agg #[.bool p.v, .int .i64 p.n, .int .i64 p.k, .int .i64 p.m, .string p.s]
theorem PartBox.fz {W : World} {b : Nat} {p : PartP} (h : PartBox W b p) (j : Nat) : W.frozen? ⟨b, j, none⟩ = false := by unfold PartBox at h; simp [World.frozen?, h]
theorem PartBox.row {W : World} {b : Nat} {p : PartP} (h : PartBox W b p) (cs : Array Value) : (W.setRow b cs).heap[b]? = some (.cells cs 113 (0, 0)) := setRow_heap _ _ _ _ _ _ h
theorem PartBox.set {W : World} {b : Nat} {p : PartP} (h : PartBox W b p) (q : PartP) : PartBox (((((W.setCell ⟨b, 0, none⟩ (.bool q.v)).setCell ⟨b, 1, none⟩ (.int .i64 q.n)).setCell ⟨b, 2, none⟩ (.int .i64 q.k)).setCell ⟨b, 3, none⟩ (.int .i64 q.m)).setCell ⟨b, 4, none⟩ (.string q.s)) b q := by
  have e0 := setCell_eq_setRow W b 0 _ _ (0, 0) (.bool q.v) h
  rw [e0]
  have h0 := h.row ((#[Value.bool p.v, .int .i64 p.n, .int .i64 p.k, .int .i64 p.m, .string p.s] : Array Value).setIfInBounds 0 (.bool q.v))
  have e1 := setCell_eq_setRow _ b 1 _ _ (0, 0) (.int .i64 q.n) h0
  rw [e1, setRow_setRow]
  have h1 := h.row (((#[Value.bool p.v, .int .i64 p.n, .int .i64 p.k, .int .i64 p.m, .string p.s] : Array Value).setIfInBounds 0 (.bool q.v)).setIfInBounds 1 (.int .i64 q.n))
  have e2 := setCell_eq_setRow _ b 2 _ _ (0, 0) (.int .i64 q.k) h1
  rw [e2, setRow_setRow]
  have h2 := h.row ((((#[Value.bool p.v, .int .i64 p.n, .int .i64 p.k, .int .i64 p.m, .string p.s] : Array Value).setIfInBounds 0 (.bool q.v)).setIfInBounds 1 (.int .i64 q.n)).setIfInBounds 2 (.int .i64 q.k))
  have e3 := setCell_eq_setRow _ b 3 _ _ (0, 0) (.int .i64 q.m) h2
  rw [e3, setRow_setRow]
  have h3 := h.row (((((#[Value.bool p.v, .int .i64 p.n, .int .i64 p.k, .int .i64 p.m, .string p.s] : Array Value).setIfInBounds 0 (.bool q.v)).setIfInBounds 1 (.int .i64 q.n)).setIfInBounds 2 (.int .i64 q.k)).setIfInBounds 3 (.int .i64 q.m))
  have e4 := setCell_eq_setRow _ b 4 _ _ (0, 0) (.string q.s) h3
  rw [e4, setRow_setRow]
  have h4 := h.row ((((((#[Value.bool p.v, .int .i64 p.n, .int .i64 p.k, .int .i64 p.m, .string p.s] : Array Value).setIfInBounds 0 (.bool q.v)).setIfInBounds 1 (.int .i64 q.n)).setIfInBounds 2 (.int .i64 q.k)).setIfInBounds 3 (.int .i64 q.m)).setIfInBounds 4 (.string q.s))
  exact h4
end Go.Proofs.YthdjlaombbeagaaGreat

/-
  CONTRACT: told (the program's iterator over parts).
-/
namespace Go.Proofs.YthdjlaombbeagaaGreat
open Go.RowKit Go.Shelf
attribute [local go_sem] Oper.semAt_some

theorem Rest.back {W W' : World} {B B' : Nat} {v : Value} {l : List UInt8} (h : Rest W' B v l) (hb : Below B' W W') (hB : B ≤ B') : Rest W B v l := by
  obtain ⟨A, c, e, hs, h1, h2⟩ := h
  refine ⟨A, c, e, fun hl => ?_, h1, h2⟩
  obtain ⟨a, ea, hlt, hc⟩ := hs hl
  exact ⟨a, ea, hlt, fun j x hx => (hb.cell (p := a.add j) (by rw [add_block]; omega)).symm.trans (hc j x hx)⟩
/-- a part, and what stands behind it -/
structure Tl (w : World) (B : Nat) where
  p : PartP
  t : List UInt8
  r : Value
  ok : Rest w B r t
/-- a slice that reads as these kinds -/
def SlK (W : World) (B : Nat) (A : Option Addr) (l : List Bool) : Prop :=
  l ≠ [] → ∃ a, A = some a ∧ a.block < B ∧ ∀ (j : Nat) (x : Bool), l[j]? = some x → W.cell? (a.add j) = some (.bool x)
theorem SlK.next {W W' : World} {B : Nat} {A : Option Addr} {l : List Bool} (h : SlK W B A l) {B' : Nat} (hb : Below B' W W') (hB : B ≤ B') : SlK W' B A l := fun hl => by
  obtain ⟨a, e, hlt, hc⟩ := h hl
  exact ⟨a, e, hlt, fun j x hx => (hb.cell (p := a.add j) (by rw [add_block]; omega)).trans (hc j x hx)⟩

end Go.Proofs.YthdjlaombbeagaaGreat

/-
  CONTRACT: Read (the program's).
-/
namespace Go.Proofs.YthdjlaombbeagaaGreat
open Go.RowKit Go.Shelf
attribute [local go_sem] Oper.semAt_some

theorem info44 : (Tryz.prog.info? 113).map (fun i => (i.zero, i.size, i.bytes)) = some (some (.agg #[.bool false, .int .i64 0, .int .i64 0, .int .i64 0, .string ⟨#[]⟩]), 5, 48) := by kernel_rfl
def cellsP (p : PartP) : List Value := [.bool p.v, .int .i64 p.n, .int .i64 p.k, .int .i64 p.m, .string p.s]
/-- a slice of parts in blocks from B on, which the call has to itself -/
def OwnP (W : World) (B : Nat) (v : Value) (l : List PartP) : Prop := W.ownsRow B 113 5 v l.length (l.flatMap cellsP)
theorem OwnP.kept {W W' : World} {B : Nat} {v : Value} {l : List PartP} {row : Option Nat} (h : OwnP W B v l) (hg : W.grownBy W' row) (hr : ∀ r, row = some r → ∃ o : Obj, W.heap[r]? = some o ∧ o.isCells = false) : OwnP W' B v l := by
  refine World.ownsRow.kept (row := row) h hg ?_
  rcases h.2 with ⟨rfl, _⟩ | ⟨g, cap, cur, rfl, _, hgb, _⟩
  · exact .inl rfl
  · refine .inr fun e => ?_
    obtain ⟨_, ho, hc⟩ := hr g (by rw [← e]; rfl)
    rw [hgb] at ho
    cases ho
    simp [Obj.isCells] at hc
theorem OwnP.other {W : World} {B b : Nat} {t : TypeId} {u v : Value} {l : List PartP} (h : OwnP W B v l) (hb : Boxed W b t u) (ht : t ≠ 113) (u' : Value) : OwnP (W.setCell ⟨b, 0, none⟩ u') B v l := by
  refine World.ownsRow.kept (row := some b) h (grownBy_setCell' W b u') ?_
  have h1 := hb.not_row ht h
  cases hv : v.ownBlock with
  | none => exact .inl rfl
  | some g => exact .inr (fun e => h1 (by rw [hv, e]))
theorem OwnP.alloc {W : World} {B : Nat} {v : Value} {l : List PartP} (h : OwnP W B v l) (o : Obj) : OwnP (W.alloc o) B v l := World.ownsRow.alloc h o
theorem PartBox.kept {W W' : World} {b : Nat} {p : PartP} {row : Option Nat} (h : PartBox W b p) (hg : W.grownBy W' row) (hr : ∀ r, row = some r → ∃ o : Obj, W.heap[r]? = some o ∧ o.isCells = false) : PartBox W' b p := by
  refine (hg.block b (Array.getElem?_eq_some_iff.1 h).1 fun e => ?_).trans h
  obtain ⟨o, ho, hc⟩ := hr b e.symm
  rw [show W.heap[b]? = _ from h] at ho
  cases ho
  simp [Obj.isCells] at hc

theorem cellsP_one (p : PartP) : ∀ u ∈ cellsP p, u.oneCell' = true := by
  intro u hu
  simp [cellsP] at hu
  rcases hu with rfl | rfl | rfl | rfl | rfl <;> rfl

end Go.Proofs.YthdjlaombbeagaaGreat
