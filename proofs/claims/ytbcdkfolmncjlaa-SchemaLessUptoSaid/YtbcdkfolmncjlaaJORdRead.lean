import Derived.Test.YtbcdkfolmncjlaaJOParts
import Derived.Test.YtbcdkfolmncjlaaJLeaf
import Derived.Test.YtbcdkfolmncjlaaJOrd
import Derived.Test.YtbcdkfolmncjlaaJRegion
import Derived.Shelf.Bytes.SlIndexAt
import Derived.Lib.IndexLaws
import Derived.WalkMore
import Derived.Laws.AppendOwnNone
import Derived.Test.YtbcdkfolmncjlaaJORdNum
import Derived.Test.YtbcdkfolmncjlaaJOKey
import Derived.Test.YtbcdkfolmncjlaaJOBack
import Derived.OwnWalkIn
import Derived.RangeFuncNested
import Derived.Test.YtbcdkfolmncjlaaJOEnd
/-
  CONTRACT: Compare of two lists of parts (the document's).
-/
namespace Go.Proofs.Ytbcdkfolmncjlaa
open Go.RowKit Go.Shelf

/-- how two lists of parts stand from a place on -/
def ordPF (a b : List PartP) (j : Nat) : Int := ordK (a.drop j) (b.drop j)
theorem ordPF_step {a b : List PartP} {j : Nat} (h : j < a.length) (h' : j < b.length) : ordPF a b j = if ordP a[j] b[j] = 0 then ordPF a b (j + 1) else ordP a[j] b[j] := by
  unfold ordPF
  rw [List.drop_eq_getElem_cons h, List.drop_eq_getElem_cons h', ordK]
theorem ordPF_end {a b : List PartP} {j : Nat} (h : a.length ≤ j ∨ b.length ≤ j) : ordPF a b j = 0 := by
  unfold ordPF
  rcases h with h | h
  · rw [List.drop_of_length_le h]; cases b.drop j <;> rfl
  · rw [List.drop_of_length_le h]; cases a.drop j <;> rfl
theorem ordP_num {p q : PartP} (h : p.v = false) : ordP p q = ordI p.n q.n := by unfold ordP; rw [h]; rfl
theorem ordP_val {p q : PartP} (h : p.v = true) : ordP p q = ordV p.k p.m p.s q.k q.m q.s := by unfold ordP; rw [h]; rfl
theorem below_dr {B : Nat} {a w : World} (h : Below B a w) : Below B a w.drew := ⟨h.os, h.tape, h.output, h.size, h.block⟩

theorem s6n {B : Nat} {w W W' : World} {b b' o o' : Nat} {x0 x1 x2 y0 y1 y2 : Value} (hb : b < B) (hb' : b' < B)
    (h : W.cell? ⟨b, o + 2, none⟩ = some x0 ∧ W.cell? ⟨b, o + 2 + 1, none⟩ = some x1 ∧ W.cell? ⟨b, o + 2 + 2, none⟩ = some x2 ∧
      W.cell? ⟨b', o' + 2, none⟩ = some y0 ∧ W.cell? ⟨b', o' + 2 + 1, none⟩ = some y1 ∧ W.cell? ⟨b', o' + 2 + 2, none⟩ = some y2 ∧ Below B w W ∧ B ≤ W.heap.size)
    (hw : Below W.heap.size W W') :
    W'.cell? ⟨b, o + 2, none⟩ = some x0 ∧ W'.cell? ⟨b, o + 2 + 1, none⟩ = some x1 ∧ W'.cell? ⟨b, o + 2 + 2, none⟩ = some x2 ∧
      W'.cell? ⟨b', o' + 2, none⟩ = some y0 ∧ W'.cell? ⟨b', o' + 2 + 1, none⟩ = some y1 ∧ W'.cell? ⟨b', o' + 2 + 2, none⟩ = some y2 ∧ Below B w W' ∧ B ≤ W'.heap.size := by
  obtain ⟨h0, h1, h2, h3, h4, h5, h6, h7⟩ := h
  exact ⟨(hw.cell (p := ⟨b, o + 2, none⟩) (by show b < _; omega)).trans h0, (hw.cell (p := ⟨b, o + 2 + 1, none⟩) (by show b < _; omega)).trans h1, (hw.cell (p := ⟨b, o + 2 + 2, none⟩) (by show b < _; omega)).trans h2,
    (hw.cell (p := ⟨b', o' + 2, none⟩) (by show b' < _; omega)).trans h3, (hw.cell (p := ⟨b', o' + 2 + 1, none⟩) (by show b' < _; omega)).trans h4, (hw.cell (p := ⟨b', o' + 2 + 2, none⟩) (by show b' < _; omega)).trans h5,
    h6.trans (hw.mono (by omega)), by have := hw.size; omega⟩

end Go.Proofs.Ytbcdkfolmncjlaa

/-
  CONTRACT: readValue (the program's).
-/
namespace Go.Proofs.Ytbcdkfolmncjlaa
open Go.RowKit Go.Shelf

/-- a value as a whole -/
def valV (k n : Int) (s : ByteArray) : Value := .agg #[.int .i64 k, .int .i64 n, .string s]
/-- What readValue answers. -/
def ValRd (W : World) (B : Nat) (l : List UInt8) (e : Ending) (w' : World) : Prop :=
  ((∃ k n s t r, oneR l = some ((k, n, s), t) ∧ e = .returned (.tuple #[valV k n ⟨s.toArray⟩, r, .bool true]) ∧ Rest w' B r t) ∨
  (oneR l = none ∧ ∃ k n s r, e = .returned (.tuple #[valV k n s, r, .bool false]))) ∧ Below W.heap.size W w'

theorem ValAt.fz {W : World} {b : Nat} {k n : Int} {s : ByteArray} (h : ValAt W b k n s) (j : Nat) : W.frozen? ⟨b, j, none⟩ = false := by unfold ValAt at h; simp [World.frozen?, h]
theorem ValAt.set0 {W : World} {b : Nat} {k n : Int} {s : ByteArray} (h : ValAt W b k n s) (k' : Int) : ValAt (W.setCell ⟨b, 0, none⟩ (.int .i64 k')) b k' n s := by
  have e := setCell_eq_setRow W b 0 _ _ (0, 0) (.int .i64 k') h
  unfold ValAt
  rw [e, setRow_heap _ _ _ _ _ _ h]; rfl
theorem ValAt.set1 {W : World} {b : Nat} {k n : Int} {s : ByteArray} (h : ValAt W b k n s) (n' : Int) : ValAt (W.setCell ⟨b, 1, none⟩ (.int .i64 n')) b k n' s := by
  have e := setCell_eq_setRow W b 1 _ _ (0, 0) (.int .i64 n') h
  unfold ValAt
  rw [e, setRow_heap _ _ _ _ _ _ h]; rfl
theorem ValAt.set2 {W : World} {b : Nat} {k n : Int} {s : ByteArray} (h : ValAt W b k n s) (s' : ByteArray) : ValAt (W.setCell ⟨b, 2, none⟩ (.string s')) b k n s' := by
  have e := setCell_eq_setRow W b 2 _ _ (0, 0) (.string s') h
  unfold ValAt
  rw [e, setRow_heap _ _ _ _ _ _ h]; rfl
theorem ValAt.far {W : World} {b b' j : Nat} {k n : Int} {s : ByteArray} (h : ValAt W b k n s) (hne : b ≠ b') (u : Value) : ValAt (W.setCell ⟨b', j, none⟩ u) b k n s :=
  (Below.heap_setCell W ⟨b', j, none⟩ u b hne).trans h
theorem ValAt.dr {W : World} {b : Nat} {k n : Int} {s : ByteArray} (h : ValAt W b k n s) : ValAt W.drew b k n s := h
theorem results_cell_tmp2 {fn : Func} {p q r : Tmp} {ty : TypeId} (h : fn.results = #[.cell p ty, .tmp q, .tmp r]) (tmps : Array Value) (P : Program) (w : World) :
    (results fn tmps).run P w =
      ((asAddr (tmps.getD p undef)).run P w).andThen fun a w₁ => ((loadVar ty a).run P w₁).andThen fun v w₂ => .ok (.tuple #[v, tmps.getD q undef, tmps.getD r undef]) w₂ := by
  simp only [results, h]
  simp [Sem.run_bind, Result.andThen]

theorem txtR_len : ∀ {l s u : List UInt8}, txtR l = some (s, u) → s.length ≤ l.length
  | [], _, _, h => by cases h
  | [_], _, _, h => by cases h
  | c :: d :: r, s, u, h => by
    rw [txtR] at h
    by_cases hc : c = 0
    · rw [if_pos hc] at h
      by_cases h1 : d = 1
      · rw [if_pos h1] at h
        cases h
        simp
      · rw [if_neg h1] at h
        by_cases h2 : d = 255
        · rw [if_pos h2] at h
          cases hr : txtR r with
          | none => rw [hr] at h; cases h
          | some p =>
            obtain ⟨s', u'⟩ := p
            rw [hr] at h
            have := txtR_len hr
            cases h
            simp; omega
        · rw [if_neg h2] at h; cases h
    · rw [if_neg hc] at h
      cases hr : txtR (d :: r) with
      | none => rw [hr] at h; cases h
      | some p =>
        obtain ⟨s', u'⟩ := p
        rw [hr] at h
        have := txtR_len hr
        cases h
        simp at this ⊢; omega

end Go.Proofs.Ytbcdkfolmncjlaa

/-
  CONTRACT: readPart (the program's).
-/
namespace Go.Proofs.Ytbcdkfolmncjlaa
open Go.RowKit Go.Shelf

/-- a part as a whole -/
def partV (p : PartP) : Value := .agg #[.bool p.v, .int .i64 p.n, .int .i64 p.k, .int .i64 p.m, .string p.s]
/-- What readPart answers. -/
def PartRd (W : World) (B : Nat) (v : Bool) (l : List UInt8) (e : Ending) (w' : World) : Prop :=
  ((∃ p t r, partR v l = some (p, t) ∧ e = .returned (.tuple #[partV p, r, .bool true]) ∧ Rest w' B r t) ∨
  (partR v l = none ∧ ∃ p r, e = .returned (.tuple #[partV p, r, .bool false]))) ∧ Below W.heap.size W w'
theorem below_set5 {W : World} {B b : Nat} (hb : B ≤ b) (u0 u1 u2 u3 u4 : Value) {w : World} (h : Below B w W) : Below B w (((((W.setCell ⟨b, 0, none⟩ u0).setCell ⟨b, 1, none⟩ u1).setCell ⟨b, 2, none⟩ u2).setCell ⟨b, 3, none⟩ u3).setCell ⟨b, 4, none⟩ u4) :=
  ((((h.setCell (p := ⟨b, 0, none⟩) hb _).setCell (p := ⟨b, 1, none⟩) hb _).setCell (p := ⟨b, 2, none⟩) hb _).setCell (p := ⟨b, 3, none⟩) hb _).setCell (p := ⟨b, 4, none⟩) hb _
def zeroP : PartP := ⟨false, 0, 0, 0, ⟨#[]⟩⟩

end Go.Proofs.Ytbcdkfolmncjlaa

/-
  CONTRACT: told (the program's iterator over parts).
-/
namespace Go.Proofs.Ytbcdkfolmncjlaa
open Go.RowKit Go.Shelf
attribute [local go_sem] Oper.semAt_some

theorem Rest.back {W W' : World} {B B' : Nat} {v : Value} {l : List UInt8} (h : Rest W' B v l) (hb : Below B' W W') (hB : B ≤ B') : Rest W B v l := by
  obtain ⟨A, c, e, hs, h1, h2⟩ := h
  refine ⟨A, c, e, fun hl => ?_, h1, h2⟩
  obtain ⟨a, ea, hlt, hc⟩ := hs hl
  exact ⟨a, ea, hlt, fun j x hx => (hb.cell (p := a.add j) (by rw [add_block]; omega)).symm.trans (hc j x hx)⟩
theorem abides_at {α : Type} {B : Nat} {J : List α → World → Prop} (hJ : AbidesFrom B J) {p : List α} {w w' : World} (h : J p w) (hb : Below w.heap.size w w') : J p w' :=
  hJ p w w' none h ⟨hb.os, hb.tape, hb.output, hb.size, fun k hk _ => hb.block k hk⟩ (fun r e => by cases e)

/-- a part, and what stands behind it -/
structure Tl (w : World) (B : Nat) where
  p : PartP
  t : List UInt8
  r : Value
  ok : Rest w B r t
def Tl.pt {w : World} {B : Nat} (x : Tl w B) : PartP × List UInt8 := (x.p, x.t)
/-- the parts that bytes begin with -/
def tellL : List Bool → List UInt8 → List (PartP × List UInt8)
  | [], _ => []
  | v :: ks, b => match partR v b with
    | none => []
    | some (p, t) => (p, t) :: tellL ks t
theorem txtR_rest : ∀ {l s u : List UInt8}, txtR l = some (s, u) → u.length ≤ l.length
  | [], _, _, h => by cases h
  | [_], _, _, h => by cases h
  | c :: d :: r, s, u, h => by
    rw [txtR] at h
    by_cases hc : c = 0
    · rw [if_pos hc] at h
      by_cases h1 : d = 1
      · rw [if_pos h1] at h
        cases h
        simp; omega
      · rw [if_neg h1] at h
        by_cases h2 : d = 255
        · rw [if_pos h2] at h
          cases hr : txtR r with
          | none => rw [hr] at h; cases h
          | some p =>
            obtain ⟨s', u'⟩ := p
            rw [hr] at h
            have := txtR_rest hr
            cases h
            simp; omega
        · rw [if_neg h2] at h; cases h
    · rw [if_neg hc] at h
      cases hr : txtR (d :: r) with
      | none => rw [hr] at h; cases h
      | some p =>
        obtain ⟨s', u'⟩ := p
        rw [hr] at h
        have := txtR_rest hr
        cases h
        simp at this ⊢; omega
theorem oneR_rest {l t : List UInt8} {x : Int × Int × List UInt8} (h : oneR l = some (x, t)) : t.length ≤ l.length := by
  cases l with
  | nil => cases h
  | cons c r =>
    simp only [oneR] at h
    by_cases h2 : c = 2
    · rw [if_pos h2] at h
      cases r with
      | nil => cases h
      | cons d u =>
        simp only at h
        split at h
        · cases h; simp; omega
        · cases h
    · rw [if_neg h2] at h
      by_cases h1 : c = 1 ∨ c = 5 ∨ c = 6
      · rw [if_pos h1] at h
        split at h
        · cases h; simp; omega
        · cases h
      · rw [if_neg h1] at h
        by_cases h3 : c = 3 ∨ c = 4 ∨ c = 7
        · rw [if_pos h3] at h
          cases hr : txtR r with
          | none => rw [hr] at h; cases h
          | some p =>
            obtain ⟨s, u⟩ := p
            rw [hr] at h
            simp only at h
            have := txtR_rest hr
            split at h
            · cases h; simp; omega
            · cases h
        · rw [if_neg h3] at h; cases h
theorem partR_rest {v : Bool} {l t : List UInt8} {p : PartP} (h : partR v l = some (p, t)) : t.length ≤ l.length := by
  unfold partR at h
  split at h
  · cases ho : oneR l with
    | none => rw [ho] at h; cases h
    | some x =>
      obtain ⟨x, u⟩ := x
      rw [ho] at h
      cases h
      exact oneR_rest ho
  · split at h
    · cases h; simp
    · cases h

/-- a slice that reads as these kinds -/
def SlK (W : World) (B : Nat) (A : Option Addr) (l : List Bool) : Prop :=
  l ≠ [] → ∃ a, A = some a ∧ a.block < B ∧ ∀ (j : Nat) (x : Bool), l[j]? = some x → W.cell? (a.add j) = some (.bool x)
theorem SlK.next {W W' : World} {B : Nat} {A : Option Addr} {l : List Bool} (h : SlK W B A l) {B' : Nat} (hb : Below B' W W') (hB : B ≤ B') : SlK W' B A l := fun hl => by
  obtain ⟨a, e, hlt, hc⟩ := h hl
  exact ⟨a, e, hlt, fun j x hx => (hb.cell (p := a.add j) (by rw [add_block]; omega)).trans (hc j x hx)⟩

/-- One round of the loop that is handed parts. -/
def HandsT (w : World) (B : Nat) (l N : Nat) (J Jx : List (Tl w B) → World → Prop) : Prop :=
  ∀ m pre (x : Tl w B) W, J pre W → pre.length < N → YieldAt Fence.wide m Try.prog l #[partV x.p, x.r] W fun e W' =>
    (e = .returned (.bool true) ∧ J (pre ++ [x]) W' ∧ Below B W W') ∨ (e = .returned (.bool false) ∧ Jx (pre ++ [x]) W')

end Go.Proofs.Ytbcdkfolmncjlaa

/-
  CONTRACT: Read (the program's).
-/
namespace Go.Proofs.Ytbcdkfolmncjlaa
open Go.RowKit Go.Shelf
attribute [local go_sem] Oper.semAt_some

def cellsP (p : PartP) : List Value := [.bool p.v, .int .i64 p.n, .int .i64 p.k, .int .i64 p.m, .string p.s]
/-- what stands behind the last part that was told -/
def lastR {w : World} {B : Nat} (r0 : Value) (pre : List (Tl w B)) : Value := match pre.getLast? with
  | none => r0
  | some x => x.r
theorem ownsRow_succ' {W : World} {B : Nat} {e : TypeId} {size n : Nat} {v : Value} {xs : List Value} (h : W.ownsRow B e size v (n + 1) xs) : ∃ g cap, v = .slice (some ⟨g, 0, none⟩) (n + 1) cap := by
  rcases h.2 with ⟨_, h0⟩ | ⟨g, cap, cur, rfl, _⟩
  · omega
  · exact ⟨g, cap, rfl⟩
theorem cellsP_one (p : PartP) : ∀ u ∈ cellsP p, u.oneCell' = true := by
  intro u hu
  simp [cellsP] at hu
  rcases hu with rfl | rfl | rfl | rfl | rfl <;> rfl

/-- what bytes are read as, whole -/
def readL (ks : List Bool) (b : List UInt8) : Option (List PartP) := if (tellL ks b).length = ks.length ∧ ((tellL ks b).getLast?.map (·.2)).getD b = [] then some ((tellL ks b).map (·.1)) else none
theorem tellL_len : ∀ (ks : List Bool) (b : List UInt8), (tellL ks b).length ≤ ks.length
  | [], _ => Nat.le_refl _
  | v :: ks, b => by
    rw [tellL]
    split
    · simp
    · have := tellL_len ks
      simp [this]
theorem lastR_is {w : World} {B : Nat} (A : Option Addr) (c : Nat) (b : List UInt8) (pre : List (Tl w B)) : ∃ RA rc u, lastR (.slice A b.length c) pre = .slice RA u.length rc ∧ u = (pre.getLast?.map (·.t)).getD b := by
  unfold lastR
  cases pre.getLast? with
  | none => exact ⟨A, c, b, rfl, rfl⟩
  | some x =>
    obtain ⟨RA, rc, e, _⟩ := x.ok
    exact ⟨RA, rc, x.t, e, rfl⟩
end Go.Proofs.Ytbcdkfolmncjlaa
