import Derived.Laws.StructEq
import Derived.Laws.AppendOwnNone
import Derived.Test.YtbcdkfolmncjlaaJORdRead
import Derived.Test.YtbcdkfolmncjlaaJOParts
import Derived.Test.YtbcdkfolmncjlaaJORdNum
import Derived.StillTailTactics
import Derived.Test.YtbcdkfolmncjlaaJDComp
import Derived.Test.YtbcdkfolmncjlaaJDCmp
import Derived.Test.YtbcdkfolmncjlaaJLeaf
import Derived.WalkMore
import Derived.Test.YtbcdkfolmncjlaaJDSortD
import Derived.Test.YtbcdkfolmncjlaaJFLastP
import Derived.Test.YtbcdkfolmncjlaaJOWords
/-
  THE LAW OrderReads: its walk.
-/
namespace Go.Proofs.Ytbcdkfolmncjlaa
open Go.RowKit Go.Shelf

def readN (ks : List Bool) (b : List UInt8) : Int := if (readL ks b).isSome then 0 else 20
theorem readL_len {ks : List Bool} {b : List UInt8} : ((readL ks b).getD []).length ≤ ks.length := by
  unfold readL
  split
  · have := tellL_len ks b
    simpa using this
  · simp

theorem SlK.more {W : World} {B B' : Nat} {A : Option Addr} {l : List Bool} (h : SlK W B A l) (hB : B ≤ B') : SlK W B' A l := fun hl => by
  obtain ⟨a, e, hlt, hc⟩ := h hl
  exact ⟨a, e, by omega, hc⟩
theorem ownB_cap {W : World} {B : Nat} {A : Option Addr} {n c : Nat} {l : List UInt8} (h : OwnB W B (.slice A n c) l) : l.length ≤ c ∧ c ≤ maxLen := by
  rcases h.2 with ⟨e, h0⟩ | ⟨g, cap, cur, e, _, _, h1, h2, _⟩
  · injection e with _ _ e
    subst e
    exact ⟨by omega, Nat.zero_le _⟩
  · injection e with _ _ e
    subst e
    exact ⟨h1, h2⟩

end Go.Proofs.Ytbcdkfolmncjlaa

/-
  CONTRACT: the document's Sorted of datoms.
-/
namespace Go.Proofs.Ytbcdkfolmncjlaa
open Go.RowKit Go.Shelf

theorem putsG_snoc {α : Type} (o : α → α → Int) (l : List α) (x : α) : putsG o (l ++ [x]) = putG o (putsG o l) x := by
  unfold putsG
  rw [List.foldl_append]; rfl
theorem filter_take {α : Type} (p : α → Bool) {l : List α} {j : Nat} (h : j < l.length) : (l.take (j + 1)).filter p = (l.take j).filter p ++ (if p l[j] then [l[j]] else []) := by
  rw [List.take_succ_eq_append_getElem h, List.filter_append]
  congr 1
  cases hq : p l[j] <;> simp [hq]
/-- what the document's Sorted answers -/
def sortsD (o : Int) (l : List Dat) : List Dat := if isO o = true then putsG (ordD o) (l.filter (hasD o)) else []
/-- what the comparing regions read -/
def CsD (N ba oa bb ob : Nat) (x y : Dat) (W : World) : Prop := DtAt W ba oa x ∧ DtAt W bb ob y ∧ (ba < N ∧ bb < N) ∧ N ≤ W.heap.size
theorem CsD.next {N ba oa bb ob : Nat} {x y : Dat} {W W' : World} (h : CsD N ba oa bb ob x y W) (hb : Below W.heap.size W W') : CsD N ba oa bb ob x y W' :=
  ⟨h.1.next hb (by have := h.2.2; omega), h.2.1.next hb (by have := h.2.2; omega), h.2.2.1, Nat.le_trans h.2.2.2 hb.size⟩

end Go.Proofs.Ytbcdkfolmncjlaa

/-
  CONTRACT over datoms: the datom that has parts.
-/
namespace Go.Proofs.Ytbcdkfolmncjlaa
open Go.RowKit

/-- a datom in a slot -/
def dV (d : Dat) : Value := .agg #[.int .i64 d.e, .int .i64 d.a, .int .i64 d.k, .int .i64 d.m, .string d.s, .int .i64 d.t, .bool d.add, .int .i64 d.fr, .int .i64 d.til]
/-- the datom that has parts, E, A and V at any three places -/
def datPl (pe pa pv : Nat) (l : List PartP) : Dat :=
  ⟨((l[pe]?).getD (numP 0)).n, ((l[pa]?).getD (numP 0)).n, ((l[pv]?).getD (numP 0)).k, ((l[pv]?).getD (numP 0)).m, ((l[pv]?).getD (numP 0)).s, ((l[3]?).getD (numP 0)).n, decide (((l[4]?).getD (numP 0)).n = 0), ((l[5]?).getD (numP 0)).n, ((l[6]?).getD (numP 0)).n⟩
theorem datPl_is (o : Int) (l : List PartP) : datPl (plE o) (plA o) (plV o) l = datL o l := rfl
theorem SlP.get {W : World} {b o : Nat} {l : List PartP} (h : ∀ (j : Nat) (p : PartP), l[j]? = some p → PartAt W b (o + j * 5) p) (j : Nat) (hj : j < l.length) : PartAt W b (o + j * 5) ((l[j]?).getD (numP 0)) := by
  have h1 := h j l[j] (List.getElem?_eq_getElem hj)
  rw [List.getElem?_eq_getElem hj]
  exact h1
/-- what the region reads -/
def MS (wz b o pe pa pv : Nat) (xe xa xv x3 x5 x6 : PartP) (W : World) : Prop :=
  (W.cell? ⟨wz, 0, none⟩ = some (.int .i64 (pe : Int)) ∧ W.cell? ⟨wz, 1, none⟩ = some (.int .i64 (pa : Int)) ∧ W.cell? ⟨wz, 2, none⟩ = some (.int .i64 (pv : Int))) ∧
  W.cell? ⟨b, o + pe * 5 + 1, none⟩ = some (.int .i64 xe.n) ∧ W.cell? ⟨b, o + pa * 5 + 1, none⟩ = some (.int .i64 xa.n) ∧
  (W.cell? ⟨b, o + pv * 5 + 2, none⟩ = some (.int .i64 xv.k) ∧ W.cell? ⟨b, o + pv * 5 + 2 + 1, none⟩ = some (.int .i64 xv.m) ∧ W.cell? ⟨b, o + pv * 5 + 2 + 2, none⟩ = some (.string xv.s)) ∧
  W.cell? ⟨b, o + 15 + 1, none⟩ = some (.int .i64 x3.n) ∧ W.cell? ⟨b, o + 25 + 1, none⟩ = some (.int .i64 x5.n) ∧ W.cell? ⟨b, o + 30 + 1, none⟩ = some (.int .i64 x6.n)
theorem MS.next {wz b o pe pa pv B : Nat} {xe xa xv x3 x5 x6 : PartP} {W W' : World} (h : MS wz b o pe pa pv xe xa xv x3 x5 x6 W) (hb : Below B W W') (h1 : wz < B) (h2 : b < B) : MS wz b o pe pa pv xe xa xv x3 x5 x6 W' := by
  obtain ⟨⟨a0, a1, a2⟩, a3, a4, ⟨a5, a6, a7⟩, a8, a9, a10⟩ := h
  have k1 : ∀ j, W'.cell? ⟨wz, j, none⟩ = W.cell? ⟨wz, j, none⟩ := fun j => hb.cell (p := ⟨wz, j, none⟩) h1
  have k2 : ∀ j, W'.cell? ⟨b, j, none⟩ = W.cell? ⟨b, j, none⟩ := fun j => hb.cell (p := ⟨b, j, none⟩) h2
  exact ⟨⟨(k1 _).trans a0, (k1 _).trans a1, (k1 _).trans a2⟩, (k2 _).trans a3, (k2 _).trans a4, ⟨(k2 _).trans a5, (k2 _).trans a6, (k2 _).trans a7⟩, (k2 _).trans a8, (k2 _).trans a9, (k2 _).trans a10⟩
theorem DatAt.set9 {W : World} {b : Nat} {d : Dat} (h : DatAt W b d) (q : Dat) :
    DatAt (((((((((W.setCell ⟨b, 0, none⟩ (.int .i64 q.e)).setCell ⟨b, 1, none⟩ (.int .i64 q.a)).setCell ⟨b, 2, none⟩ (.int .i64 q.k)).setCell ⟨b, 3, none⟩ (.int .i64 q.m)).setCell ⟨b, 4, none⟩ (.string q.s)).setCell ⟨b, 5, none⟩ (.int .i64 q.t)).setCell ⟨b, 6, none⟩ (.bool q.add)).setCell ⟨b, 7, none⟩ (.int .i64 q.fr)).setCell ⟨b, 8, none⟩ (.int .i64 q.til)) b q :=
  (heap_setCell_same _ _ _ _ _ _ (heap_setCell_same _ _ _ _ _ _ (heap_setCell_same _ _ _ _ _ _ (heap_setCell_same _ _ _ _ _ _ (heap_setCell_same _ _ _ _ _ _ (heap_setCell_same _ _ _ _ _ _ (heap_setCell_same _ _ _ _ _ _ (heap_setCell_same _ _ _ _ _ _ (heap_setCell_same _ _ _ _ _ _ h))))))))).trans (by simp)
theorem below_set9 {W : World} {B b : Nat} (hb : B ≤ b) (u0 u1 u2 u3 u4 u5 u6 u7 u8 : Value) :
    Below B W (((((((((W.setCell ⟨b, 0, none⟩ u0).setCell ⟨b, 1, none⟩ u1).setCell ⟨b, 2, none⟩ u2).setCell ⟨b, 3, none⟩ u3).setCell ⟨b, 4, none⟩ u4).setCell ⟨b, 5, none⟩ u5).setCell ⟨b, 6, none⟩ u6).setCell ⟨b, 7, none⟩ u7).setCell ⟨b, 8, none⟩ u8) :=
  ((((((((((Below.refl B W).setCell (p := ⟨b, 0, none⟩) hb _).setCell (p := ⟨b, 1, none⟩) hb _).setCell (p := ⟨b, 2, none⟩) hb _).setCell (p := ⟨b, 3, none⟩) hb _).setCell (p := ⟨b, 4, none⟩) hb _).setCell (p := ⟨b, 5, none⟩) hb _).setCell (p := ⟨b, 6, none⟩) hb _).setCell (p := ⟨b, 7, none⟩) hb _).setCell (p := ⟨b, 8, none⟩) hb _)

end Go.Proofs.Ytbcdkfolmncjlaa

/-
  CONTRACTS: ofDatom, Fold's closures, ContainsFunc over datoms, runs.
-/
namespace Go.Proofs.Ytbcdkfolmncjlaa
open Go.RowKit Go.Shelf

/-- a triple as a value -/
def triV (d : Dat) : Value := .agg #[.int .i64 d.e, .int .i64 d.a, .int .i64 d.k, .int .i64 d.m, .string d.s]
def notMay (l : List Dat) : Bool := l.any fun d => !mayD d
end Go.Proofs.Ytbcdkfolmncjlaa

/-
  FACTS on stretches of a slice: where each stands; triples compared.
-/
namespace Go.Proofs.Ytbcdkfolmncjlaa
open Go.RowKit Go.Shelf

/-- where the rest stands behind some stretches, and its capacity -/
def stR : Option Addr → Nat → List (List Dat) → Option Addr × Nat
  | A, c, [] => (A, c)
  | A, c, r :: q => stR (cutD A c r.length) (c - r.length) q
theorem stR_snoc (r : List Dat) : ∀ (pre : List (List Dat)) (A : Option Addr) (c : Nat), stR A c (pre ++ [r]) = (cutD (stR A c pre).1 (stR A c pre).2 r.length, (stR A c pre).2 - r.length)
  | [], _, _ => rfl
  | _ :: pre, _, _ => stR_snoc r pre _ _
theorem stR_cap : ∀ (pre : List (List Dat)) (A : Option Addr) (c : Nat), (stR A c pre).2 = c - pre.flatten.length
  | [], A, c => by simp [stR]
  | q :: pre, A, c => by
    show (stR (cutD A c q.length) (c - q.length) pre).2 = _
    rw [stR_cap pre, List.flatten_cons, List.length_append]; omega
theorem stR_sl {W : World} {B : Nat} : ∀ (pre : List (List Dat)) {A : Option Addr} {c : Nat} {l : List Dat}, SlD W B A l → l.length ≤ c → pre.flatten.length ≤ l.length → SlD W B (stR A c pre).1 (l.drop pre.flatten.length)
  | [], _, _, _, h, _, _ => by simpa [stR] using h
  | q :: pre, A, c, l, h, hlc, hp => by
    rw [List.flatten_cons, List.length_append] at hp
    have := stR_sl pre (c := c - q.length) (h.drop q.length hlc) (by rw [List.length_drop]; omega) (by rw [List.length_drop]; omega)
    rw [List.drop_drop] at this
    rw [List.flatten_cons, List.length_append]
    exact this
section
variable {κ : Type} [DecidableEq κ] (key : Dat → κ)
/-- what is left behind i stretches -/
def restR (l : List Dat) (i : Nat) : List Dat := l.drop ((runsL key l).take i).flatten.length
theorem runs_drop : ∀ (i : Nat) (l : List Dat), runsL key (restR key l i) = (runsL key l).drop i
  | 0, l => by unfold restR; simp
  | i + 1, l => by
    by_cases hl : l = []
    · subst hl; unfold restR; rw [runsL_nil]; simp [runsL_nil]
    · have h1 := runs_drop i (l.drop (runN key l))
      have hle := runN_le key l
      unfold restR at h1 ⊢
      rw [runsL_step key hl, List.take_succ_cons, List.flatten_cons, List.length_append, List.length_take, Nat.min_eq_left hle, List.drop_succ_cons, ← List.drop_drop]
      exact h1
theorem restR_next {l : List Dat} {i : Nat} (h : i < (runsL key l).length) : restR key l i ≠ [] ∧ (runsL key l)[i] = (restR key l i).take (runN key (restR key l i)) ∧ restR key l (i + 1) = (restR key l i).drop (runN key (restR key l i)) := by
  have h1 := runs_drop key i l
  have h2 : restR key l i ≠ [] := by
    intro e
    rw [e, runsL_nil] at h1
    have := congrArg List.length h1
    rw [List.length_drop] at this
    simp at this
    omega
  rw [runsL_step key h2, List.drop_eq_getElem_cons h] at h1
  injection h1 with h3 h4
  have hle := runN_le key (restR key l i)
  refine ⟨h2, h3.symm, ?_⟩
  have h5 : ((runsL key l)[i]).length = runN key (restR key l i) := by rw [← h3, List.length_take, Nat.min_eq_left hle]
  show l.drop ((runsL key l).take (i + 1)).flatten.length = _
  rw [List.take_succ_eq_append_getElem h, List.flatten_append, List.length_append, ← List.drop_drop]
  simp only [List.flatten_cons, List.flatten_nil, List.append_nil, h5]
  rfl
theorem runs_each {l : List Dat} {i : Nat} (h : i < (runsL key l).length) : ((runsL key l)[i]).length = runN key (restR key l i) := by
  obtain ⟨_, h2, _⟩ := restR_next key h
  rw [h2, List.length_take, Nat.min_eq_left (runN_le key _)]
theorem restR_end {l : List Dat} {i : Nat} (h : (runsL key l).length ≤ i) : restR key l i = [] := by
  have h1 := runs_drop key i l
  rw [List.drop_of_length_le h] at h1
  by_cases hn : restR key l i = []
  · exact hn
  · rw [runsL_step key hn] at h1; cases h1
theorem flat_le (l : List Dat) (i : Nat) : ((runsL key l).take i).flatten.length ≤ l.length := by
  conv => rhs; rw [← runsL_join key _ l (Nat.le_refl _), ← List.take_append_drop i (runsL key l), List.flatten_append, List.length_append]
  omega
theorem rest_len (l : List Dat) (i : Nat) : (restR key l i).length = l.length - ((runsL key l).take i).flatten.length := by unfold restR; rw [List.length_drop]
end
/-- all places -/
def allN (N : Nat) : List (Fin N) := List.finRange N
theorem allN_take {N i : Nat} (h : i < N) : (allN N).take (i + 1) = (allN N).take i ++ [⟨i, h⟩] := by
  rw [List.take_succ_eq_append_getElem (by unfold allN; simpa using h)]
  unfold allN
  simp
theorem allN_len (N : Nat) : (allN N).length = N := by unfold allN; simp
theorem allN_pre {N : Nat} {pre : List (Fin N)} {x : Fin N} (h : pre ++ [x] <+: allN N) : pre.length = x.val ∧ pre = (allN N).take x.val := by
  obtain ⟨r, hr⟩ := h
  have hl : pre.length < N := by
    have := congrArg List.length hr
    rw [allN_len] at this
    simp at this
    omega
  have h1 : (allN N)[pre.length]? = some x := by
    rw [← hr, List.append_assoc, List.getElem?_append_right (Nat.le_refl _), Nat.sub_self]; rfl
  have h2 : (allN N)[pre.length]? = some ⟨pre.length, hl⟩ := by
    rw [List.getElem?_eq_getElem (by rw [allN_len]; exact hl)]
    unfold allN
    simp
  rw [h2] at h1
  have h3 : x = ⟨pre.length, hl⟩ := (Option.some.inj h1).symm
  have h4 : pre.length = x.val := by rw [h3]
  refine ⟨h4, ?_⟩
  rw [← h4, ← hr, List.append_assoc, List.take_left]

theorem eqTri (x y : Dat) (w : World) : (binOp .eql 94 (triV x) (triV y)).run Try.prog w = .ok (.bool (decide (triD x = triD y))) w := by
  have u2 := Try.underlying2
  have a2 := Try.isAgg2
  have aV := Try.isAgg27
  have hS : Try.prog.underlying 94 = some (.struct (Try.prog.fieldsOf 94)) := by kernel_rfl
  have hp : Try.prog.stoodInHeld 94 = false := by kernel_rfl
  have hV := fun w => eqInV9 x.k x.m x.s y.k y.m y.s w
  have hd : decide (triD x = triD y) = ((x.e == y.e) && ((x.a == y.a) && ((x.k == y.k) && ((x.m == y.m) && (x.s.toList == y.s.toList))))) := by
    rw [Bool.eq_iff_iff]
    simp only [decide_eq_true_eq, Bool.and_eq_true, beq_iff_eq, triD, Prod.mk.injEq]
    constructor
    · rintro ⟨h1, h2, h3, h4, h5⟩
      exact ⟨h1, h2, h3, h4, by rw [h5]⟩
    · rintro ⟨h1, h2, h3, h4, h5⟩
      refine ⟨h1, h2, h3, h4, ?_⟩
      rw [ByteArray.toList_eq, ByteArray.toList_eq] at h5
      cases hx : x.s with
      | mk l =>
        cases hy : y.s with
        | mk l' =>
          rw [hx, hy] at h5
          cases l
          cases l'
          simpa using h5
  unfold triV
  rw [run_eql_struct, hd, show (10000 : Nat) = 9999 + 1 from rfl, run_equalIn_agg w 9999 94 _ _ hS hp]
  simp only [Program.fieldsOf, Try.underlying94]
  obtain ⟨b1, h1⟩ : ∃ b, (x.e == y.e) = b := ⟨_, rfl⟩
  obtain ⟨b2, h2⟩ : ∃ b, (x.a == y.a) = b := ⟨_, rfl⟩
  obtain ⟨b3, h3⟩ : ∃ b, ((x.k == y.k) && ((x.m == y.m) && (x.s.toList == y.s.toList))) = b := ⟨_, rfl⟩
  rw [h3] at hV
  rw [h1, h2, h3]
  clear hd h3
  cases b1
  · go_simp
  cases b2
  · go_simp
  cases b3
  · go_simp
  · go_simp
end Go.Proofs.Ytbcdkfolmncjlaa
