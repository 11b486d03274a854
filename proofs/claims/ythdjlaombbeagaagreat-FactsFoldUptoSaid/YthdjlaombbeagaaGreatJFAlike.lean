import Derived.Lib.SlicesCompact
import Derived.Test.YthdjlaombbeagaaGreatJDOrd
import Derived.Lib.SliceRun
import Derived.Lib.LazyBuf
import Derived.Laws.StructEq
import Derived.Deep.Draws
import Derived.Deep.LoopGhost
import Derived.Test.YthdjlaombbeagaaGreatJVRef
import Derived.Test.YthdjlaombbeagaaGreatJOArgs
import Derived.Test.YthdjlaombbeagaaGreatJSAdd
import Derived.Test.YthdjlaombbeagaaGreatJRegion
/-
  PLAIN FACTS: what Compact keeps of a list is compG of it.
-/
namespace Go.Proofs.YthdjlaombbeagaaGreat
open Go.Shelf
open Go.Lib (keeps compactUpTo CompInv keeps_pos keeps_neg keeps_lt_one compactUpTo_all compactUpTo_succ range_map_get)

section
variable {α : Type} {o : α → α → Int}
theorem compG_two (h : VOrd.IsOrd o) (y x : α) : compG o [y, x] = if o y x = 0 then [y] else [y, x] := by
  unfold compG
  split
  · rename_i h0
    rw [(h.zero y x).1 h0]; rfl
  · rfl
theorem compG_snoc (h : VOrd.IsOrd o) : ∀ (l : List α) (y x : α), compG o (l ++ [y, x]) = if o y x = 0 then compG o (l ++ [y]) else compG o (l ++ [y]) ++ [x]
  | [], y, x => by
    show compG o [y, x] = if o y x = 0 then compG o [y] else compG o [y] ++ [x]
    rw [compG_two h]; rfl
  | [a], y, x => by
    show compG o (a :: y :: [x]) = if o y x = 0 then compG o (a :: y :: []) else compG o (a :: y :: []) ++ [x]
    have e1 : compG o (a :: y :: [x]) = if o a y = 0 then compG o [y, x] else a :: compG o [y, x] := by rw [compG]
    have e2 : compG o (a :: y :: []) = if o a y = 0 then compG o [y] else a :: compG o [y] := by conv => lhs; rw [compG]
    rw [e1, e2, compG_two h]
    have e3 : compG o [y] = [y] := rfl
    rw [e3]
    by_cases h1 : o a y = 0 <;> by_cases h2 : o y x = 0 <;> simp [h1, h2]
  | a :: b :: l, y, x => by
    have ih := compG_snoc h (b :: l) y x
    have e1 : compG o (a :: b :: (l ++ [y, x])) = if o a b = 0 then compG o (b :: (l ++ [y, x])) else a :: compG o (b :: (l ++ [y, x])) := by rw [compG]
    have e2 : compG o (a :: b :: (l ++ [y])) = if o a b = 0 then compG o (b :: (l ++ [y])) else a :: compG o (b :: (l ++ [y])) := by rw [compG]
    show compG o (a :: b :: (l ++ [y, x])) = if o y x = 0 then compG o (a :: b :: (l ++ [y])) else compG o (a :: b :: (l ++ [y])) ++ [x]
    rw [e1, e2]
    have ih' : compG o (b :: (l ++ [y, x])) = if o y x = 0 then compG o (b :: (l ++ [y])) else compG o (b :: (l ++ [y])) ++ [x] := ih
    rw [ih']
    by_cases h1 : o a b = 0 <;> by_cases h2 : o y x = 0 <;> simp [h1, h2]
variable [Inhabited α] [DecidableEq α]
theorem compUp (h : VOrd.IsOrd o) (d : Array α) : ∀ m, m ≤ d.size → compactUpTo d m = compG o (d.toList.take m)
  | 0, _ => by simp [compactUpTo, compG]
  | 1, hm => by
    rw [compactUpTo_succ]
    have e : d.toList.take 1 = [d[0]!] := by
      rw [List.take_succ_eq_append_getElem (by simp; omega), getElem!_pos d 0 (by omega)]; simp
    rw [e]
    simp [compactUpTo, keeps, compG]
  | m + 2, hm => by
    have ih := compUp h d (m + 1) (by omega)
    have e1 : d.toList.take (m + 1) = d.toList.take m ++ [d[m]!] := by
      rw [List.take_succ_eq_append_getElem (by simp; omega), getElem!_pos d m (by omega)]; simp
    have e2 : d.toList.take (m + 2) = d.toList.take m ++ [d[m]!, d[m + 1]!] := by
      rw [List.take_succ_eq_append_getElem (by simp; omega), e1, getElem!_pos d (m + 1) (by omega)]; simp
    rw [compactUpTo_succ, ih, e2, compG_snoc h, ← e1]
    by_cases hx : d[m + 1]! = d[m]!
    · have hz : o d[m]! d[m + 1]! = 0 := (h.zero _ _).2 hx.symm
      rw [if_pos hz, keeps_neg (by omega) (by simpa using hx)]; simp
    · have hz : ¬ o d[m]! d[m + 1]! = 0 := fun e => hx ((h.zero _ _).1 e).symm
      rw [if_neg hz, keeps_pos (by simpa using hx)]; simp
theorem compAll (h : VOrd.IsOrd o) (d : Array α) : compactUpTo d d.size = compG o d.toList := by
  rw [compUp h d d.size (Nat.le_refl _), List.take_of_length_le (by simp)]
theorem compUp_len (d : Array α) (m : Nat) : (compactUpTo d m).length ≤ m := by
  unfold compactUpTo
  rw [List.length_map]
  exact Nat.le_trans (List.length_filter_le _ _) (by simp)
end
end Go.Proofs.YthdjlaombbeagaaGreat

/-
  CONTRACT: slices.Compact at values.
-/
namespace Go.Proofs.YthdjlaombbeagaaGreat
open Go.RowKit Go.Shelf
open Go.Lib (keeps compactUpTo CompInv keeps_pos keeps_neg keeps_lt_one compactUpTo_all range_map_get)
open Go.Sort (HoldsK)

theorem eqInV (x y : Vl) (w : World) : (Op.equalIn 10000 42 (.agg #[.int .i64 x.1, .int .i64 x.2.1, .string x.2.2]) (.agg #[.int .i64 y.1, .int .i64 y.2.1, .string y.2.2])).run Tryz.prog w = .ok (decide (x = y)) w := by
  obtain ⟨a, b, s⟩ := x
  obtain ⟨a', b', s'⟩ := y
  have u3 := Tryz.underlying3
  have u2 := Tryz.underlying2
  have u9 := Tryz.underlying9
  have a3 := Tryz.isAgg3
  have a2 := Tryz.isAgg2
  have a9 := Tryz.isAgg9
  have hS : Tryz.prog.underlying 42 = some (.struct (Tryz.prog.fieldsOf 42)) := by kernel_rfl
  have hp : Tryz.prog.stoodInHeld 42 = false := by kernel_rfl
  have hd : decide ((a, b, s) = (a', b', s')) = ((a == a') && ((b == b') && (s.toList == s'.toList))) := by
    rw [Bool.eq_iff_iff]
    simp only [decide_eq_true_eq, Prod.mk.injEq, Bool.and_eq_true, beq_iff_eq]
    constructor
    · rintro ⟨h1, h2, h3⟩
      exact ⟨h1, h2, by rw [h3]⟩
    · rintro ⟨h1, h2, h3⟩
      refine ⟨h1, h2, ?_⟩
      rw [ByteArray.toList_eq, ByteArray.toList_eq] at h3
      obtain ⟨⟨l⟩⟩ := s
      obtain ⟨⟨l'⟩⟩ := s'
      simpa using h3
  rw [hd, show (10000 : Nat) = 9999 + 1 from rfl, run_equalIn_agg w 9999 42 _ _ hS hp]
  simp only [Program.fieldsOf, Tryz.underlying42]
  by_cases h1 : (a == a') = true
  · by_cases h2 : (b == b') = true
    · by_cases h3 : (s.toList == s'.toList) = true
      · rw [h1, h2, h3]
        go_simp
      · rw [Bool.not_eq_true] at h3
        rw [h1, h2, h3]
        go_simp
    · rw [Bool.not_eq_true] at h2
      rw [h1, h2]
      go_simp
  · rw [Bool.not_eq_true] at h1
    rw [h1]
    go_simp
theorem eqV_run (x y : Vl) (w : World) : (binOp .eql 42 (.agg #[.int .i64 x.1, .int .i64 x.2.1, .string x.2.2]) (.agg #[.int .i64 y.1, .int .i64 y.2.1, .string y.2.2])).run Tryz.prog w = .ok (.bool (decide (x = y))) w := by
  rw [run_eql_struct, eqInV]; rfl
theorem neV_run (x y : Vl) (w : World) : (binOp .neq 42 (.agg #[.int .i64 x.1, .int .i64 x.2.1, .string x.2.2]) (.agg #[.int .i64 y.1, .int .i64 y.2.1, .string y.2.2])).run Tryz.prog w = .ok (.bool (!decide (x = y))) w := by
  rw [run_neq_struct, eqInV]; rfl

/-- an array's part that reads as these values, and may be written -/
def RowV (W : World) (g o : Nat) (d : Array Vl) : Prop := ∀ j, j < d.size → VlAt W g (o + j * 3) d[j]! ∧ W.frozen? ⟨g, o + j * 3, none⟩ = false ∧ W.frozen? ⟨g, o + j * 3 + 1, none⟩ = false ∧ W.frozen? ⟨g, o + j * 3 + 2, none⟩ = false
theorem RowV.draw {W : World} {g o : Nat} {d : Array Vl} (h : RowV W g o d) (n : Nat) : RowV (W.drewN n) g o d := fun j hj => by
  obtain ⟨⟨c0, c1, c2⟩, f0, f1, f2⟩ := h j hj
  exact ⟨⟨c0, c1, c2⟩, f0, f1, f2⟩
theorem RowV.next {W W' : World} {B g o : Nat} {d : Array Vl} (h : RowV W g o d) (hb : Below B W W') (hg : g < B) : RowV W' g o d := fun j hj =>
  ⟨(h j hj).1.next hb hg, (hb.frozen (p := ⟨g, o + j * 3, none⟩) hg).trans (h j hj).2.1, (hb.frozen (p := ⟨g, o + j * 3 + 1, none⟩) hg).trans (h j hj).2.2.1, (hb.frozen (p := ⟨g, o + j * 3 + 2, none⟩) hg).trans (h j hj).2.2.2⟩
theorem getElem!_setV (d : Array Vl) (k j : Nat) (x : Vl) (hk : k < d.size) : (d.setIfInBounds k x)[j]! = if j = k then x else d[j]! := by
  by_cases e : j = k
  · subst e
    rw [if_pos rfl, getElem!_pos _ _ (by simpa using hk)]; simp
  · rw [if_neg e]
    by_cases hj : j < d.size
    · rw [getElem!_pos (d.setIfInBounds k x) j (by simpa using hj), getElem!_pos d j hj]
      rw [Array.getElem_setIfInBounds, if_neg (by omega)]
    · rw [getElem!_neg (d.setIfInBounds k x) j (by simpa using hj), getElem!_neg d j hj]
theorem RowV.set {W : World} {g o : Nat} {d : Array Vl} (h : RowV W g o d) {k : Nat} (hk : k < d.size) (x : Vl) :
    RowV (((W.setCell ⟨g, o + k * 3, none⟩ (.int .i64 x.1)).setCell ⟨g, o + k * 3 + 1, none⟩ (.int .i64 x.2.1)).setCell ⟨g, o + k * 3 + 2, none⟩ (.string x.2.2)) g o (d.setIfInBounds k x) := fun j hj => by
  have hj' : j < d.size := by simpa using hj
  obtain ⟨⟨c0, c1, c2⟩, f0, f1, f2⟩ := h j hj'
  obtain ⟨⟨k0, k1, k2⟩, _, _, _⟩ := h k hk
  rw [getElem!_setV d k j x hk]
  refine ⟨?_, ?_, ?_, ?_⟩
  · by_cases e : j = k
    · subst e
      rw [if_pos rfl]
      refine ⟨?_, ?_, ?_⟩
      · rw [World.cell?_setCell_other _ _ _ _ (by intro h; injection h with h1 h2; omega), World.cell?_setCell_other _ _ _ _ (by intro h; injection h with h1 h2; omega), World.cell?_setCell_same _ _ _ c0]
      · rw [World.cell?_setCell_other _ _ _ _ (by intro h; injection h with h1 h2; omega), World.cell?_setCell_same _ _ _ (by rw [World.cell?_setCell_other _ _ _ _ (by intro h; injection h with h1 h2; omega)]; exact c1)]
      · rw [World.cell?_setCell_same _ _ _ (by rw [World.cell?_setCell_other _ _ _ _ (by intro h; injection h with h1 h2; omega), World.cell?_setCell_other _ _ _ _ (by intro h; injection h with h1 h2; omega)]; exact c2)]
    · rw [if_neg e]
      have ne : ∀ a b, a < 3 → b < 3 → o + k * 3 + a ≠ o + j * 3 + b := fun a b ha hb => by omega
      have out : ∀ b, b < 3 → (((W.setCell ⟨g, o + k * 3, none⟩ (.int .i64 x.1)).setCell ⟨g, o + k * 3 + 1, none⟩ (.int .i64 x.2.1)).setCell ⟨g, o + k * 3 + 2, none⟩ (.string x.2.2)).cell? ⟨g, o + j * 3 + b, none⟩ = W.cell? ⟨g, o + j * 3 + b, none⟩ := fun b hb => by
        rw [World.cell?_setCell_other _ _ _ _ (by intro h; injection h with h1 h2; exact ne 2 b (by omega) hb h2), World.cell?_setCell_other _ _ _ _ (by intro h; injection h with h1 h2; exact ne 1 b (by omega) hb h2), World.cell?_setCell_other _ _ _ _ (by intro h; injection h with h1 h2; exact ne 0 b (by omega) hb h2)]
      exact ⟨(out 0 (by decide)).trans c0, (out 1 (by decide)).trans c1, (out 2 (by decide)).trans c2⟩
  · simpa using f0
  · simpa using f1
  · simpa using f2
/-- what stands ahead of some place, as a slice -/
theorem RowV.sl {W : World} {g o : Nat} {d : Array Vl} (h : RowV W g o d) {r : List Vl} (hr : ∀ j v, r[j]? = some v → j < d.size ∧ v = d[j]!) : SlV W (g + 1) (some ⟨g, o, none⟩) r := fun _ =>
  ⟨g, o, rfl, Nat.lt_succ_self _, fun j v hv => by obtain ⟨h1, h2⟩ := hr j v hv; rw [h2]; exact (h j h1).1⟩
theorem below_drewN {n0 : Nat} (w : World) (q : Nat) : Below n0 w (w.drewN q) := ⟨rfl, rfl, rfl, Nat.le_refl _, fun _ _ => rfl⟩
end Go.Proofs.YthdjlaombbeagaaGreat

/-
  CONTRACTS: the document's alike, next, said (layer 6).
-/
namespace Go.Proofs.YthdjlaombbeagaaGreat
open Go.RowKit

/-- datoms of one entity, attribute and value -/
def alikeB (a b : Dat) : Bool := (a.e == b.e) && (a.a == b.a) && decide (((a.k, a.m, a.s) : Vl) = (b.k, b.m, b.s))
set_option maxRecDepth 100000 in
set_option maxHeartbeats 2000000 in
theorem alike_any (a b : Dat) (w : World) :
    Calls Tryz.prog 47 #[.agg #[.int .i64 a.e, .int .i64 a.a, .int .i64 a.k, .int .i64 a.m, .string a.s, .int .i64 a.t, .bool a.add, .int .i64 a.fr, .int .i64 a.til], .agg #[.int .i64 b.e, .int .i64 b.a, .int .i64 b.k, .int .i64 b.m, .string b.s, .int .i64 b.t, .bool b.add, .int .i64 b.fr, .int .i64 b.til]] w fun e w' => e = .returned (.bool (alikeB a b)) ∧ Below w.heap.size w w' := by
  obtain ⟨w1, hw1⟩ : ∃ X, (w.alloc (.cells #[.int .i64 a.e, .int .i64 a.a, .int .i64 a.k, .int .i64 a.m, .string a.s, .int .i64 a.t, .bool a.add, .int .i64 a.fr, .int .i64 a.til] 44)).alloc (.cells #[.int .i64 b.e, .int .i64 b.a, .int .i64 b.k, .int .i64 b.m, .string b.s, .int .i64 b.t, .bool b.add, .int .i64 b.fr, .int .i64 b.til] 44) = X := ⟨_, rfl⟩
  have HB1 : Hid (Below w.heap.size w w1) := by show Below _ _ _; rw [← hw1]; exact ((Below.refl _ _).alloc (Nat.le_refl _) _).alloc (by simp) _
  have ha : DatAt w1 w.heap.size a := by rw [← hw1]; exact (datAt_new w a).alloc _
  have hb : DatAt w1 (w.heap.size + 1) b := by
    rw [← hw1]
    have := datAt_new (w.alloc (.cells #[.int .i64 a.e, .int .i64 a.a, .int .i64 a.k, .int .i64 a.m, .string a.s, .int .i64 a.t, .bool a.add, .int .i64 a.fr, .int .i64 a.til] 44)) b
    rw [World.size_alloc] at this
    exact this
  have a0 := ha.c0
  have a1 := ha.c1
  have a2 := ha.c2
  have a3 := ha.c3
  have a4 := ha.c4
  have b0 := hb.c0
  have b1 := hb.c1
  have b2 := hb.c2
  have b3 := hb.c3
  have b4 := hb.c4
  have hv := eqV_run (a.k, a.m, a.s) (b.k, b.m, b.s)
  obtain ⟨r, hr⟩ : ∃ r, decide (((a.k, a.m, a.s) : Vl) = (b.k, b.m, b.s)) = r := ⟨_, rfl⟩
  rw [hr] at hv
  have HV : Hid (alikeB a b = ((a.e == b.e) && (a.a == b.a) && r)) := by show _ = _; unfold alikeB; rw [hr]
  rw [HV.out]
  clear ha hb hr
  by_cases g1 : a.e = b.e
  · have g1' : (a.e == b.e) = true := beq_iff_eq.2 g1
    by_cases g2 : a.a = b.a
    · have g2' : (a.a == b.a) = true := beq_iff_eq.2 g2
      have HR : Hid (((a.e == b.e) && (a.a == b.a) && r) = r) := by show _ = _; rw [g1', g2']; rfl
      rw [HR.out]
      clear g1 g2 HR HV
      go_enter Tryz.func47, Tryz.ntmps47
      go_wp2_with fail
      try rw [hw1]
      try go_wp2
      go_ret
      exact ⟨rfl, HB1.out⟩
    · have g2' : (a.a == b.a) = false := beq_eq_false_iff_ne.2 g2
      have HR : Hid (((a.e == b.e) && (a.a == b.a) && r) = false) := by show _ = _; rw [g1', g2']; rfl
      rw [HR.out]
      clear g1 g2 HR HV
      go_enter Tryz.func47, Tryz.ntmps47
      go_wp2_with fail
      try rw [hw1]
      try go_wp2
      go_ret
      exact ⟨rfl, HB1.out⟩
  · have g1' : (a.e == b.e) = false := beq_eq_false_iff_ne.2 g1
    have HR : Hid (((a.e == b.e) && (a.a == b.a) && r) = false) := by show _ = _; rw [g1']; rfl
    rw [HR.out]
    clear g1 HR HV
    go_enter Tryz.func47, Tryz.ntmps47
    go_wp2_with fail
    try rw [hw1]
    try go_wp2
    go_ret
    exact ⟨rfl, HB1.out⟩
theorem qd_dn {B : Nat} {w w1 : World} (h : Below B w w1) (n : Nat) : Below B w (w1.drewN n) := ⟨h.os, h.tape, h.output, h.size, h.block⟩
/-- the least transaction above one, of datoms like one -/
def nextL (d : Dat) (t : Int) (l : List Dat) : Int := l.foldl (fun o x => if alikeB x d = true ∧ t < x.t ∧ (o = 0 ∨ x.t < o) then x.t else o) 0
theorem nextL_take (d : Dat) (t : Int) {l : List Dat} {j : Nat} {x : Dat} (hp : l[j]? = some x) : nextL d t (l.take (j + 1)) = if alikeB x d = true ∧ t < x.t ∧ (nextL d t (l.take j) = 0 ∨ x.t < nextL d t (l.take j)) then x.t else nextL d t (l.take j) := by
  rw [List.take_add_one, hp]
  unfold nextL
  rw [List.foldl_append]
  rfl
set_option maxRecDepth 100000 in
set_option maxHeartbeats 4000000 in
theorem next_any (A : Option Addr) (c B : Nat) (l : List Dat) (d : Dat) (t : Int) (w : World) (hs : SlD w B A l) (hB : B ≤ w.heap.size) (hl : l.length ≤ 1000000) :
    Calls Tryz.prog 24 #[.slice A l.length c, .agg #[.int .i64 d.e, .int .i64 d.a, .int .i64 d.k, .int .i64 d.m, .string d.s, .int .i64 d.t, .bool d.add, .int .i64 d.fr, .int .i64 d.til], .int .i64 t] w fun e w' => e = .returned (.int .i64 (nextL d t l)) ∧ Below w.heap.size w w' := by
  obtain ⟨w1, hw1⟩ : ∃ X, w.alloc (.cells #[.int .i64 d.e, .int .i64 d.a, .int .i64 d.k, .int .i64 d.m, .string d.s, .int .i64 d.t, .bool d.add, .int .i64 d.fr, .int .i64 d.til] 44) = X := ⟨_, rfl⟩
  have HB1 : Hid (Below w.heap.size w w1) := by show Below _ _ _; rw [← hw1]; exact (Below.refl _ _).alloc (Nat.le_refl _) _
  have HD1 : Hid (DatAt w1 w.heap.size d) := by show DatAt _ _ _; rw [← hw1]; exact datAt_new w d
  have HS := Lib.hid hs
  have HBW := Lib.hid hB
  clear hs hB
  go_enter Tryz.func24, Tryz.ntmps24
  go_wp2_with fail
  try rw [hw1]
  clear hw1
  go_loopg [7, 8] l.length (fun gk y z wr => ∃ (j : Nat) (out : Int), z = .int .i64 (j : Nat) ∧ y = .int .i64 out ∧ j + gk = l.length ∧ Hid (out = nextL d t (l.take j)) ∧ Hid (Below w1.heap.size w1 wr))
  case atStart => exact ⟨0, 0, rfl, rfl, by omega, rfl, Below.refl _ _⟩
  case round =>
    obtain ⟨j, out, rfl, rfl, hj, HO, HB⟩ := hrel
    cases gk with
    | zero =>
      have hjz : ¬ ((j : Int) < (l.length : Int)) := by omega
      have hjz' : decide ((j : Int) < (l.length : Int)) = false := decide_eq_false hjz
      have HF : Hid (Ending.returned (.int .i64 out) = Ending.returned (.int .i64 (nextL d t l))) := by show _ = _; rw [HO.out, List.take_of_length_le (by omega)]
      have HBF := Lib.hid (HB1.out.trans (HB.out.mono HB1.out.size))
      go_wp2
      go_ret
      exact ⟨HF.out, HBF.out⟩
    | succ gk =>
      have hjz : ((j : Int) < (l.length : Int)) := by omega
      have hjz' : decide ((j : Int) < (l.length : Int)) = true := decide_eq_true hjz
      have hj0 : (0 : Int) ≤ (j : Int) := by omega
      have hjn : j < l.length := by omega
      obtain ⟨ob, oo, rfl, hob, hat⟩ := HS.out.at_ hjn
      obtain ⟨x, hx⟩ : ∃ x, l[j] = x := ⟨_, rfl⟩
      have hp : l[j]? = some x := by rw [List.getElem?_eq_getElem hjn, hx]
      rw [hx] at hat
      have HX : Hid (∀ X, Below w1.heap.size w1 X → DtAt X ob (oo + j * 9) x) := fun X hX => hat.next (HB1.out.trans (hX.mono HB1.out.size)) (Nat.lt_of_lt_of_le hob HBW.out)
      have HD : Hid (∀ X, Below w1.heap.size w1 X → DatAt X w.heap.size d) := fun X hX => HD1.out.next hX HD1.out.lt
      obtain ⟨al, hal⟩ : ∃ al, alikeB x d = al := ⟨_, rfl⟩
      have HAL := Lib.hid hal
      have HTK := Lib.hid (nextL_take d t hp)
      rw [hal] at HTK
      clear hat hob hx hp hal
      rw [← HO.out] at HTK
      cases al with
      | false =>
        have HE : Hid (out = nextL d t (l.take (j + 1))) := by show _ = _; rw [HTK.out, if_neg (by simp)]
        go_wp2_with fail
        have HS0 := Lib.hid (HB.out.trans ((qd_dn (Below.refl wr.heap.size wr) 1).mono HB.out.size))
        obtain ⟨wz, hwz⟩ : ∃ X, wr.drew = X := ⟨_, rfl⟩
        refine wp_region_held_drew (S := fun X => Below w1.heap.size w1 X) (by kernel_rfl) HS0.out (fun hHeld => ?_)
        rw [hwz] at hHeld ⊢
        clear hwz HS0
        refine takeQ 0 15 ((.slice (some ⟨ob, oo, none⟩) l.length c)) ?_
        simp only [Act.put, List.setIfInBounds_toArray, List.set_cons_zero, List.set_cons_succ]
        refine takeQ 1 16 ((.int .i64 (j : Nat))) ?_
        simp only [Act.put, List.setIfInBounds_toArray, List.set_cons_zero, List.set_cons_succ]
        refine takeQ 2 17 ((.pointer (some ⟨ob, oo + j * 9, none⟩))) ?_
        simp only [Act.put, List.setIfInBounds_toArray, List.set_cons_zero, List.set_cons_succ]
        refine takeQ 3 18 ((.agg #[.int .i64 x.e, .int .i64 x.a, .int .i64 x.k, .int .i64 x.m, .string x.s, .int .i64 x.t, .bool x.add, .int .i64 x.fr, .int .i64 x.til])) ?_ (hy := by (intro _w hSw; have hq := HX.out _ hSw; have q0 := hq.c0; have q1 := hq.c1; have q2 := hq.c2; have q3 := hq.c3; have q4 := hq.c4; have q5 := hq.c5; have q6 := hq.c6; have q7 := hq.c7; have q8 := hq.c8; clear hSw; go_simp))
        simp only [Act.put, List.setIfInBounds_toArray, List.set_cons_zero, List.set_cons_succ]
        refine takeQ 4 19 ((.agg #[.int .i64 d.e, .int .i64 d.a, .int .i64 d.k, .int .i64 d.m, .string d.s, .int .i64 d.t, .bool d.add, .int .i64 d.fr, .int .i64 d.til])) ?_ (hy := by (intro _w hSw; have hq := HD.out _ hSw; have q0 := hq.c0; have q1 := hq.c1; have q2 := hq.c2; have q3 := hq.c3; have q4 := hq.c4; have q5 := hq.c5; have q6 := hq.c6; have q7 := hq.c7; have q8 := hq.c8; clear hSw; go_simp))
        simp only [Act.put, List.setIfInBounds_toArray, List.set_cons_zero, List.set_cons_succ]
        refine callV 5 rfl (by kernel_rfl) (by rfl) (fun K hK => ?_)
        go_simp
        refine (alike_any x d _).mono ?_
        rintro e wf ⟨rfl, hbf⟩
        rw [HAL.out]
        refine hK.out _ _ (hHeld.trans (hbf.mono hHeld.size)) (fun hHeld2 => ?_)
        clear hbf
        clear hK K hHeld
        have hHeld := hHeld2
        clear hHeld2
        try simp only [Act.put, List.setIfInBounds_toArray, List.set_cons_zero, List.set_cons_succ]
        refine takeQ 6 21 ((.bool false)) ?_
        simp only [Act.put, List.setIfInBounds_toArray, List.set_cons_zero, List.set_cons_succ]
        refine skipQ 7 22 ?_
        simp only [Act.put, List.setIfInBounds_toArray, List.set_cons_zero, List.set_cons_succ]
        refine skipQ 8 23 ?_
        simp only [Act.put, List.setIfInBounds_toArray, List.set_cons_zero, List.set_cons_succ]
        refine skipQ 9 24 ?_
        simp only [Act.put, List.setIfInBounds_toArray, List.set_cons_zero, List.set_cons_succ]
        refine skipQ 10 25 ?_
        simp only [Act.put, List.setIfInBounds_toArray, List.set_cons_zero, List.set_cons_succ]
        refine skipQ 11 26 ?_
        simp only [Act.put, List.setIfInBounds_toArray, List.set_cons_zero, List.set_cons_succ]
        refine skipQ 12 27 ?_
        simp only [Act.put, List.setIfInBounds_toArray, List.set_cons_zero, List.set_cons_succ]
        refine skipQ 13 28 ?_
        simp only [Act.put, List.setIfInBounds_toArray, List.set_cons_zero, List.set_cons_succ]
        refine takeQ 14 29 ((.bool false)) ?_
        simp only [Act.put, List.setIfInBounds_toArray, List.set_cons_zero, List.set_cons_succ]
        refine takeQ 15 30 ((.bool false)) ?_
        simp only [Act.put, List.setIfInBounds_toArray, List.set_cons_zero, List.set_cons_succ]
        refine skipQ 16 31 ?_
        simp only [Act.put, List.setIfInBounds_toArray, List.set_cons_zero, List.set_cons_succ]
        refine skipQ 17 32 ?_
        simp only [Act.put, List.setIfInBounds_toArray, List.set_cons_zero, List.set_cons_succ]
        refine skipQ 18 33 ?_
        simp only [Act.put, List.setIfInBounds_toArray, List.set_cons_zero, List.set_cons_succ]
        refine skipQ 19 34 ?_
        simp only [Act.put, List.setIfInBounds_toArray, List.set_cons_zero, List.set_cons_succ]
        refine skipQ 20 35 ?_
        simp only [Act.put, List.setIfInBounds_toArray, List.set_cons_zero, List.set_cons_succ]
        refine skipQ 21 36 ?_
        simp only [Act.put, List.setIfInBounds_toArray, List.set_cons_zero, List.set_cons_succ]
        refine skipQ 22 37 ?_
        simp only [Act.put, List.setIfInBounds_toArray, List.set_cons_zero, List.set_cons_succ]
        refine skipQ 23 38 ?_
        simp only [Act.put, List.setIfInBounds_toArray, List.set_cons_zero, List.set_cons_succ]
        refine skipQ 24 39 ?_
        simp only [Act.put, List.setIfInBounds_toArray, List.set_cons_zero, List.set_cons_succ]
        refine skipQ 25 40 ?_
        simp only [Act.put, List.setIfInBounds_toArray, List.set_cons_zero, List.set_cons_succ]
        refine skipQ 26 41 ?_
        simp only [Act.put, List.setIfInBounds_toArray, List.set_cons_zero, List.set_cons_succ]
        refine takeQ 27 42 ((.bool false)) ?_
        simp only [Act.put, List.setIfInBounds_toArray, List.set_cons_zero, List.set_cons_succ]
        refine wpAnyH_done (by kernel_rfl) ?_ _
        have HBR := Lib.hid hHeld
        clear hHeld
        go_wp2
        go_roundg gk
        case measure => omega
        case rel => exact ⟨j + 1, _, by go_num, rfl, by omega, HE.out, HBR.out⟩
      | true =>
        by_cases gt : t < x.t
        · have gt' : decide (t < x.t) = true := decide_eq_true gt
          by_cases o0 : out = 0
          · have o0' : (out == 0) = true := by rw [o0]; rfl
            have HE : Hid (x.t = nextL d t (l.take (j + 1))) := by show _ = _; rw [HTK.out, if_pos ⟨rfl, gt, .inl o0⟩]
            clear gt o0
            go_wp2_with fail
            have HS0 := Lib.hid (HB.out.trans ((qd_dn (Below.refl wr.heap.size wr) 1).mono HB.out.size))
            obtain ⟨wz, hwz⟩ : ∃ X, wr.drew = X := ⟨_, rfl⟩
            refine wp_region_held_drew (S := fun X => Below w1.heap.size w1 X) (by kernel_rfl) HS0.out (fun hHeld => ?_)
            rw [hwz] at hHeld ⊢
            clear hwz HS0
            refine takeQ 0 15 ((.slice (some ⟨ob, oo, none⟩) l.length c)) ?_
            simp only [Act.put, List.setIfInBounds_toArray, List.set_cons_zero, List.set_cons_succ]
            refine takeQ 1 16 ((.int .i64 (j : Nat))) ?_
            simp only [Act.put, List.setIfInBounds_toArray, List.set_cons_zero, List.set_cons_succ]
            refine takeQ 2 17 ((.pointer (some ⟨ob, oo + j * 9, none⟩))) ?_
            simp only [Act.put, List.setIfInBounds_toArray, List.set_cons_zero, List.set_cons_succ]
            refine takeQ 3 18 ((.agg #[.int .i64 x.e, .int .i64 x.a, .int .i64 x.k, .int .i64 x.m, .string x.s, .int .i64 x.t, .bool x.add, .int .i64 x.fr, .int .i64 x.til])) ?_ (hy := by (intro _w hSw; have hq := HX.out _ hSw; have q0 := hq.c0; have q1 := hq.c1; have q2 := hq.c2; have q3 := hq.c3; have q4 := hq.c4; have q5 := hq.c5; have q6 := hq.c6; have q7 := hq.c7; have q8 := hq.c8; clear hSw; go_simp))
            simp only [Act.put, List.setIfInBounds_toArray, List.set_cons_zero, List.set_cons_succ]
            refine takeQ 4 19 ((.agg #[.int .i64 d.e, .int .i64 d.a, .int .i64 d.k, .int .i64 d.m, .string d.s, .int .i64 d.t, .bool d.add, .int .i64 d.fr, .int .i64 d.til])) ?_ (hy := by (intro _w hSw; have hq := HD.out _ hSw; have q0 := hq.c0; have q1 := hq.c1; have q2 := hq.c2; have q3 := hq.c3; have q4 := hq.c4; have q5 := hq.c5; have q6 := hq.c6; have q7 := hq.c7; have q8 := hq.c8; clear hSw; go_simp))
            simp only [Act.put, List.setIfInBounds_toArray, List.set_cons_zero, List.set_cons_succ]
            refine callV 5 rfl (by kernel_rfl) (by rfl) (fun K hK => ?_)
            go_simp
            refine (alike_any x d _).mono ?_
            rintro e wf ⟨rfl, hbf⟩
            rw [HAL.out]
            refine hK.out _ _ (hHeld.trans (hbf.mono hHeld.size)) (fun hHeld2 => ?_)
            clear hbf
            clear hK K hHeld
            have hHeld := hHeld2
            clear hHeld2
            try simp only [Act.put, List.setIfInBounds_toArray, List.set_cons_zero, List.set_cons_succ]
            refine takeQ 6 21 ((.bool true)) ?_
            simp only [Act.put, List.setIfInBounds_toArray, List.set_cons_zero, List.set_cons_succ]
            refine takeQ 7 22 ((.slice (some ⟨ob, oo, none⟩) l.length c)) ?_
            simp only [Act.put, List.setIfInBounds_toArray, List.set_cons_zero, List.set_cons_succ]
            refine takeQ 8 23 ((.int .i64 (j : Nat))) ?_
            simp only [Act.put, List.setIfInBounds_toArray, List.set_cons_zero, List.set_cons_succ]
            refine takeQ 9 24 ((.pointer (some ⟨ob, oo + j * 9, none⟩))) ?_
            simp only [Act.put, List.setIfInBounds_toArray, List.set_cons_zero, List.set_cons_succ]
            refine takeQ 10 25 ((.pointer (some ⟨ob, oo + j * 9 + 5, none⟩))) ?_
            simp only [Act.put, List.setIfInBounds_toArray, List.set_cons_zero, List.set_cons_succ]
            refine takeQ 11 26 ((.int .i64 x.t)) ?_ (hy := by (intro _w hSw; have q0 := (HX.out _ hSw).c5; clear hSw; go_simp))
            simp only [Act.put, List.setIfInBounds_toArray, List.set_cons_zero, List.set_cons_succ]
            refine takeQ 12 27 ((.int .i64 t)) ?_
            simp only [Act.put, List.setIfInBounds_toArray, List.set_cons_zero, List.set_cons_succ]
            refine takeQ 13 28 ((.bool true)) ?_
            simp only [Act.put, List.setIfInBounds_toArray, List.set_cons_zero, List.set_cons_succ]
            refine takeQ 14 29 ((.bool true)) ?_
            simp only [Act.put, List.setIfInBounds_toArray, List.set_cons_zero, List.set_cons_succ]
            refine takeQ 15 30 ((.bool true)) ?_
            simp only [Act.put, List.setIfInBounds_toArray, List.set_cons_zero, List.set_cons_succ]
            refine takeQ 16 31 ((.int .i64 out)) ?_
            simp only [Act.put, List.setIfInBounds_toArray, List.set_cons_zero, List.set_cons_succ]
            refine takeQ 17 32 ((.bool true)) ?_
            simp only [Act.put, List.setIfInBounds_toArray, List.set_cons_zero, List.set_cons_succ]
            refine takeQ 18 33 ((.bool true)) ?_
            simp only [Act.put, List.setIfInBounds_toArray, List.set_cons_zero, List.set_cons_succ]
            refine skipQ 19 34 ?_
            simp only [Act.put, List.setIfInBounds_toArray, List.set_cons_zero, List.set_cons_succ]
            refine skipQ 20 35 ?_
            simp only [Act.put, List.setIfInBounds_toArray, List.set_cons_zero, List.set_cons_succ]
            refine skipQ 21 36 ?_
            simp only [Act.put, List.setIfInBounds_toArray, List.set_cons_zero, List.set_cons_succ]
            refine skipQ 22 37 ?_
            simp only [Act.put, List.setIfInBounds_toArray, List.set_cons_zero, List.set_cons_succ]
            refine skipQ 23 38 ?_
            simp only [Act.put, List.setIfInBounds_toArray, List.set_cons_zero, List.set_cons_succ]
            refine skipQ 24 39 ?_
            simp only [Act.put, List.setIfInBounds_toArray, List.set_cons_zero, List.set_cons_succ]
            refine skipQ 25 40 ?_
            simp only [Act.put, List.setIfInBounds_toArray, List.set_cons_zero, List.set_cons_succ]
            refine takeQ 26 41 ((.bool true)) ?_
            simp only [Act.put, List.setIfInBounds_toArray, List.set_cons_zero, List.set_cons_succ]
            refine takeQ 27 42 ((.bool true)) ?_
            simp only [Act.put, List.setIfInBounds_toArray, List.set_cons_zero, List.set_cons_succ]
            refine wpAnyH_done (by kernel_rfl) ?_ _
            have HBR := Lib.hid hHeld
            have c5 := (HX.out _ hHeld).c5
            clear hHeld
            go_wp2
            go_roundg gk
            case measure => omega
            case rel => exact ⟨j + 1, _, by go_num, rfl, by omega, HE.out, HBR.out⟩
          · have o0' : (out == 0) = false := beq_eq_false_iff_ne.2 o0
            by_cases lt : x.t < out
            · have lt' : decide (x.t < out) = true := decide_eq_true lt
              have HE : Hid (x.t = nextL d t (l.take (j + 1))) := by show _ = _; rw [HTK.out, if_pos ⟨rfl, gt, .inr lt⟩]
              clear gt o0 lt
              go_wp2_with fail
              have HS0 := Lib.hid (HB.out.trans ((qd_dn (Below.refl wr.heap.size wr) 1).mono HB.out.size))
              obtain ⟨wz, hwz⟩ : ∃ X, wr.drew = X := ⟨_, rfl⟩
              refine wp_region_held_drew (S := fun X => Below w1.heap.size w1 X) (by kernel_rfl) HS0.out (fun hHeld => ?_)
              rw [hwz] at hHeld ⊢
              clear hwz HS0
              refine takeQ 0 15 ((.slice (some ⟨ob, oo, none⟩) l.length c)) ?_
              simp only [Act.put, List.setIfInBounds_toArray, List.set_cons_zero, List.set_cons_succ]
              refine takeQ 1 16 ((.int .i64 (j : Nat))) ?_
              simp only [Act.put, List.setIfInBounds_toArray, List.set_cons_zero, List.set_cons_succ]
              refine takeQ 2 17 ((.pointer (some ⟨ob, oo + j * 9, none⟩))) ?_
              simp only [Act.put, List.setIfInBounds_toArray, List.set_cons_zero, List.set_cons_succ]
              refine takeQ 3 18 ((.agg #[.int .i64 x.e, .int .i64 x.a, .int .i64 x.k, .int .i64 x.m, .string x.s, .int .i64 x.t, .bool x.add, .int .i64 x.fr, .int .i64 x.til])) ?_ (hy := by (intro _w hSw; have hq := HX.out _ hSw; have q0 := hq.c0; have q1 := hq.c1; have q2 := hq.c2; have q3 := hq.c3; have q4 := hq.c4; have q5 := hq.c5; have q6 := hq.c6; have q7 := hq.c7; have q8 := hq.c8; clear hSw; go_simp))
              simp only [Act.put, List.setIfInBounds_toArray, List.set_cons_zero, List.set_cons_succ]
              refine takeQ 4 19 ((.agg #[.int .i64 d.e, .int .i64 d.a, .int .i64 d.k, .int .i64 d.m, .string d.s, .int .i64 d.t, .bool d.add, .int .i64 d.fr, .int .i64 d.til])) ?_ (hy := by (intro _w hSw; have hq := HD.out _ hSw; have q0 := hq.c0; have q1 := hq.c1; have q2 := hq.c2; have q3 := hq.c3; have q4 := hq.c4; have q5 := hq.c5; have q6 := hq.c6; have q7 := hq.c7; have q8 := hq.c8; clear hSw; go_simp))
              simp only [Act.put, List.setIfInBounds_toArray, List.set_cons_zero, List.set_cons_succ]
              refine callV 5 rfl (by kernel_rfl) (by rfl) (fun K hK => ?_)
              go_simp
              refine (alike_any x d _).mono ?_
              rintro e wf ⟨rfl, hbf⟩
              rw [HAL.out]
              refine hK.out _ _ (hHeld.trans (hbf.mono hHeld.size)) (fun hHeld2 => ?_)
              clear hbf
              clear hK K hHeld
              have hHeld := hHeld2
              clear hHeld2
              try simp only [Act.put, List.setIfInBounds_toArray, List.set_cons_zero, List.set_cons_succ]
              refine takeQ 6 21 ((.bool true)) ?_
              simp only [Act.put, List.setIfInBounds_toArray, List.set_cons_zero, List.set_cons_succ]
              refine takeQ 7 22 ((.slice (some ⟨ob, oo, none⟩) l.length c)) ?_
              simp only [Act.put, List.setIfInBounds_toArray, List.set_cons_zero, List.set_cons_succ]
              refine takeQ 8 23 ((.int .i64 (j : Nat))) ?_
              simp only [Act.put, List.setIfInBounds_toArray, List.set_cons_zero, List.set_cons_succ]
              refine takeQ 9 24 ((.pointer (some ⟨ob, oo + j * 9, none⟩))) ?_
              simp only [Act.put, List.setIfInBounds_toArray, List.set_cons_zero, List.set_cons_succ]
              refine takeQ 10 25 ((.pointer (some ⟨ob, oo + j * 9 + 5, none⟩))) ?_
              simp only [Act.put, List.setIfInBounds_toArray, List.set_cons_zero, List.set_cons_succ]
              refine takeQ 11 26 ((.int .i64 x.t)) ?_ (hy := by (intro _w hSw; have q0 := (HX.out _ hSw).c5; clear hSw; go_simp))
              simp only [Act.put, List.setIfInBounds_toArray, List.set_cons_zero, List.set_cons_succ]
              refine takeQ 12 27 ((.int .i64 t)) ?_
              simp only [Act.put, List.setIfInBounds_toArray, List.set_cons_zero, List.set_cons_succ]
              refine takeQ 13 28 ((.bool true)) ?_
              simp only [Act.put, List.setIfInBounds_toArray, List.set_cons_zero, List.set_cons_succ]
              refine takeQ 14 29 ((.bool true)) ?_
              simp only [Act.put, List.setIfInBounds_toArray, List.set_cons_zero, List.set_cons_succ]
              refine takeQ 15 30 ((.bool true)) ?_
              simp only [Act.put, List.setIfInBounds_toArray, List.set_cons_zero, List.set_cons_succ]
              refine takeQ 16 31 ((.int .i64 out)) ?_
              simp only [Act.put, List.setIfInBounds_toArray, List.set_cons_zero, List.set_cons_succ]
              refine takeQ 17 32 ((.bool false)) ?_
              simp only [Act.put, List.setIfInBounds_toArray, List.set_cons_zero, List.set_cons_succ]
              refine takeQ 18 33 ((.bool false)) ?_
              simp only [Act.put, List.setIfInBounds_toArray, List.set_cons_zero, List.set_cons_succ]
              refine takeQ 19 34 ((.slice (some ⟨ob, oo, none⟩) l.length c)) ?_
              simp only [Act.put, List.setIfInBounds_toArray, List.set_cons_zero, List.set_cons_succ]
              refine takeQ 20 35 ((.int .i64 (j : Nat))) ?_
              simp only [Act.put, List.setIfInBounds_toArray, List.set_cons_zero, List.set_cons_succ]
              refine takeQ 21 36 ((.pointer (some ⟨ob, oo + j * 9, none⟩))) ?_
              simp only [Act.put, List.setIfInBounds_toArray, List.set_cons_zero, List.set_cons_succ]
              refine takeQ 22 37 ((.pointer (some ⟨ob, oo + j * 9 + 5, none⟩))) ?_
              simp only [Act.put, List.setIfInBounds_toArray, List.set_cons_zero, List.set_cons_succ]
              refine takeQ 23 38 ((.int .i64 x.t)) ?_ (hy := by (intro _w hSw; have q0 := (HX.out _ hSw).c5; clear hSw; go_simp))
              simp only [Act.put, List.setIfInBounds_toArray, List.set_cons_zero, List.set_cons_succ]
              refine takeQ 24 39 ((.int .i64 out)) ?_
              simp only [Act.put, List.setIfInBounds_toArray, List.set_cons_zero, List.set_cons_succ]
              refine takeQ 25 40 ((.bool true)) ?_
              simp only [Act.put, List.setIfInBounds_toArray, List.set_cons_zero, List.set_cons_succ]
              refine takeQ 26 41 ((.bool true)) ?_
              simp only [Act.put, List.setIfInBounds_toArray, List.set_cons_zero, List.set_cons_succ]
              refine takeQ 27 42 ((.bool true)) ?_
              simp only [Act.put, List.setIfInBounds_toArray, List.set_cons_zero, List.set_cons_succ]
              refine wpAnyH_done (by kernel_rfl) ?_ _
              have HBR := Lib.hid hHeld
              have c5 := (HX.out _ hHeld).c5
              clear hHeld
              go_wp2
              go_roundg gk
              case measure => omega
              case rel => exact ⟨j + 1, _, by go_num, rfl, by omega, HE.out, HBR.out⟩
            · have lt' : decide (x.t < out) = false := decide_eq_false lt
              have HE : Hid (out = nextL d t (l.take (j + 1))) := by show _ = _; rw [HTK.out, if_neg (fun h => h.2.2.elim o0 lt)]
              clear gt o0 lt
              go_wp2_with fail
              have HS0 := Lib.hid (HB.out.trans ((qd_dn (Below.refl wr.heap.size wr) 1).mono HB.out.size))
              obtain ⟨wz, hwz⟩ : ∃ X, wr.drew = X := ⟨_, rfl⟩
              refine wp_region_held_drew (S := fun X => Below w1.heap.size w1 X) (by kernel_rfl) HS0.out (fun hHeld => ?_)
              rw [hwz] at hHeld ⊢
              clear hwz HS0
              refine takeQ 0 15 ((.slice (some ⟨ob, oo, none⟩) l.length c)) ?_
              simp only [Act.put, List.setIfInBounds_toArray, List.set_cons_zero, List.set_cons_succ]
              refine takeQ 1 16 ((.int .i64 (j : Nat))) ?_
              simp only [Act.put, List.setIfInBounds_toArray, List.set_cons_zero, List.set_cons_succ]
              refine takeQ 2 17 ((.pointer (some ⟨ob, oo + j * 9, none⟩))) ?_
              simp only [Act.put, List.setIfInBounds_toArray, List.set_cons_zero, List.set_cons_succ]
              refine takeQ 3 18 ((.agg #[.int .i64 x.e, .int .i64 x.a, .int .i64 x.k, .int .i64 x.m, .string x.s, .int .i64 x.t, .bool x.add, .int .i64 x.fr, .int .i64 x.til])) ?_ (hy := by (intro _w hSw; have hq := HX.out _ hSw; have q0 := hq.c0; have q1 := hq.c1; have q2 := hq.c2; have q3 := hq.c3; have q4 := hq.c4; have q5 := hq.c5; have q6 := hq.c6; have q7 := hq.c7; have q8 := hq.c8; clear hSw; go_simp))
              simp only [Act.put, List.setIfInBounds_toArray, List.set_cons_zero, List.set_cons_succ]
              refine takeQ 4 19 ((.agg #[.int .i64 d.e, .int .i64 d.a, .int .i64 d.k, .int .i64 d.m, .string d.s, .int .i64 d.t, .bool d.add, .int .i64 d.fr, .int .i64 d.til])) ?_ (hy := by (intro _w hSw; have hq := HD.out _ hSw; have q0 := hq.c0; have q1 := hq.c1; have q2 := hq.c2; have q3 := hq.c3; have q4 := hq.c4; have q5 := hq.c5; have q6 := hq.c6; have q7 := hq.c7; have q8 := hq.c8; clear hSw; go_simp))
              simp only [Act.put, List.setIfInBounds_toArray, List.set_cons_zero, List.set_cons_succ]
              refine callV 5 rfl (by kernel_rfl) (by rfl) (fun K hK => ?_)
              go_simp
              refine (alike_any x d _).mono ?_
              rintro e wf ⟨rfl, hbf⟩
              rw [HAL.out]
              refine hK.out _ _ (hHeld.trans (hbf.mono hHeld.size)) (fun hHeld2 => ?_)
              clear hbf
              clear hK K hHeld
              have hHeld := hHeld2
              clear hHeld2
              try simp only [Act.put, List.setIfInBounds_toArray, List.set_cons_zero, List.set_cons_succ]
              refine takeQ 6 21 ((.bool true)) ?_
              simp only [Act.put, List.setIfInBounds_toArray, List.set_cons_zero, List.set_cons_succ]
              refine takeQ 7 22 ((.slice (some ⟨ob, oo, none⟩) l.length c)) ?_
              simp only [Act.put, List.setIfInBounds_toArray, List.set_cons_zero, List.set_cons_succ]
              refine takeQ 8 23 ((.int .i64 (j : Nat))) ?_
              simp only [Act.put, List.setIfInBounds_toArray, List.set_cons_zero, List.set_cons_succ]
              refine takeQ 9 24 ((.pointer (some ⟨ob, oo + j * 9, none⟩))) ?_
              simp only [Act.put, List.setIfInBounds_toArray, List.set_cons_zero, List.set_cons_succ]
              refine takeQ 10 25 ((.pointer (some ⟨ob, oo + j * 9 + 5, none⟩))) ?_
              simp only [Act.put, List.setIfInBounds_toArray, List.set_cons_zero, List.set_cons_succ]
              refine takeQ 11 26 ((.int .i64 x.t)) ?_ (hy := by (intro _w hSw; have q0 := (HX.out _ hSw).c5; clear hSw; go_simp))
              simp only [Act.put, List.setIfInBounds_toArray, List.set_cons_zero, List.set_cons_succ]
              refine takeQ 12 27 ((.int .i64 t)) ?_
              simp only [Act.put, List.setIfInBounds_toArray, List.set_cons_zero, List.set_cons_succ]
              refine takeQ 13 28 ((.bool true)) ?_
              simp only [Act.put, List.setIfInBounds_toArray, List.set_cons_zero, List.set_cons_succ]
              refine takeQ 14 29 ((.bool true)) ?_
              simp only [Act.put, List.setIfInBounds_toArray, List.set_cons_zero, List.set_cons_succ]
              refine takeQ 15 30 ((.bool true)) ?_
              simp only [Act.put, List.setIfInBounds_toArray, List.set_cons_zero, List.set_cons_succ]
              refine takeQ 16 31 ((.int .i64 out)) ?_
              simp only [Act.put, List.setIfInBounds_toArray, List.set_cons_zero, List.set_cons_succ]
              refine takeQ 17 32 ((.bool false)) ?_
              simp only [Act.put, List.setIfInBounds_toArray, List.set_cons_zero, List.set_cons_succ]
              refine takeQ 18 33 ((.bool false)) ?_
              simp only [Act.put, List.setIfInBounds_toArray, List.set_cons_zero, List.set_cons_succ]
              refine takeQ 19 34 ((.slice (some ⟨ob, oo, none⟩) l.length c)) ?_
              simp only [Act.put, List.setIfInBounds_toArray, List.set_cons_zero, List.set_cons_succ]
              refine takeQ 20 35 ((.int .i64 (j : Nat))) ?_
              simp only [Act.put, List.setIfInBounds_toArray, List.set_cons_zero, List.set_cons_succ]
              refine takeQ 21 36 ((.pointer (some ⟨ob, oo + j * 9, none⟩))) ?_
              simp only [Act.put, List.setIfInBounds_toArray, List.set_cons_zero, List.set_cons_succ]
              refine takeQ 22 37 ((.pointer (some ⟨ob, oo + j * 9 + 5, none⟩))) ?_
              simp only [Act.put, List.setIfInBounds_toArray, List.set_cons_zero, List.set_cons_succ]
              refine takeQ 23 38 ((.int .i64 x.t)) ?_ (hy := by (intro _w hSw; have q0 := (HX.out _ hSw).c5; clear hSw; go_simp))
              simp only [Act.put, List.setIfInBounds_toArray, List.set_cons_zero, List.set_cons_succ]
              refine takeQ 24 39 ((.int .i64 out)) ?_
              simp only [Act.put, List.setIfInBounds_toArray, List.set_cons_zero, List.set_cons_succ]
              refine takeQ 25 40 ((.bool false)) ?_
              simp only [Act.put, List.setIfInBounds_toArray, List.set_cons_zero, List.set_cons_succ]
              refine takeQ 26 41 ((.bool false)) ?_
              simp only [Act.put, List.setIfInBounds_toArray, List.set_cons_zero, List.set_cons_succ]
              refine takeQ 27 42 ((.bool false)) ?_
              simp only [Act.put, List.setIfInBounds_toArray, List.set_cons_zero, List.set_cons_succ]
              refine wpAnyH_done (by kernel_rfl) ?_ _
              have HBR := Lib.hid hHeld
              clear hHeld
              go_wp2
              go_roundg gk
              case measure => omega
              case rel => exact ⟨j + 1, _, by go_num, rfl, by omega, HE.out, HBR.out⟩
        · have gt' : decide (t < x.t) = false := decide_eq_false gt
          have HE : Hid (out = nextL d t (l.take (j + 1))) := by show _ = _; rw [HTK.out, if_neg (fun h => gt h.2.1)]
          clear gt
          go_wp2_with fail
          have HS0 := Lib.hid (HB.out.trans ((qd_dn (Below.refl wr.heap.size wr) 1).mono HB.out.size))
          obtain ⟨wz, hwz⟩ : ∃ X, wr.drew = X := ⟨_, rfl⟩
          refine wp_region_held_drew (S := fun X => Below w1.heap.size w1 X) (by kernel_rfl) HS0.out (fun hHeld => ?_)
          rw [hwz] at hHeld ⊢
          clear hwz HS0
          refine takeQ 0 15 ((.slice (some ⟨ob, oo, none⟩) l.length c)) ?_
          simp only [Act.put, List.setIfInBounds_toArray, List.set_cons_zero, List.set_cons_succ]
          refine takeQ 1 16 ((.int .i64 (j : Nat))) ?_
          simp only [Act.put, List.setIfInBounds_toArray, List.set_cons_zero, List.set_cons_succ]
          refine takeQ 2 17 ((.pointer (some ⟨ob, oo + j * 9, none⟩))) ?_
          simp only [Act.put, List.setIfInBounds_toArray, List.set_cons_zero, List.set_cons_succ]
          refine takeQ 3 18 ((.agg #[.int .i64 x.e, .int .i64 x.a, .int .i64 x.k, .int .i64 x.m, .string x.s, .int .i64 x.t, .bool x.add, .int .i64 x.fr, .int .i64 x.til])) ?_ (hy := by (intro _w hSw; have hq := HX.out _ hSw; have q0 := hq.c0; have q1 := hq.c1; have q2 := hq.c2; have q3 := hq.c3; have q4 := hq.c4; have q5 := hq.c5; have q6 := hq.c6; have q7 := hq.c7; have q8 := hq.c8; clear hSw; go_simp))
          simp only [Act.put, List.setIfInBounds_toArray, List.set_cons_zero, List.set_cons_succ]
          refine takeQ 4 19 ((.agg #[.int .i64 d.e, .int .i64 d.a, .int .i64 d.k, .int .i64 d.m, .string d.s, .int .i64 d.t, .bool d.add, .int .i64 d.fr, .int .i64 d.til])) ?_ (hy := by (intro _w hSw; have hq := HD.out _ hSw; have q0 := hq.c0; have q1 := hq.c1; have q2 := hq.c2; have q3 := hq.c3; have q4 := hq.c4; have q5 := hq.c5; have q6 := hq.c6; have q7 := hq.c7; have q8 := hq.c8; clear hSw; go_simp))
          simp only [Act.put, List.setIfInBounds_toArray, List.set_cons_zero, List.set_cons_succ]
          refine callV 5 rfl (by kernel_rfl) (by rfl) (fun K hK => ?_)
          go_simp
          refine (alike_any x d _).mono ?_
          rintro e wf ⟨rfl, hbf⟩
          rw [HAL.out]
          refine hK.out _ _ (hHeld.trans (hbf.mono hHeld.size)) (fun hHeld2 => ?_)
          clear hbf
          clear hK K hHeld
          have hHeld := hHeld2
          clear hHeld2
          try simp only [Act.put, List.setIfInBounds_toArray, List.set_cons_zero, List.set_cons_succ]
          refine takeQ 6 21 ((.bool true)) ?_
          simp only [Act.put, List.setIfInBounds_toArray, List.set_cons_zero, List.set_cons_succ]
          refine takeQ 7 22 ((.slice (some ⟨ob, oo, none⟩) l.length c)) ?_
          simp only [Act.put, List.setIfInBounds_toArray, List.set_cons_zero, List.set_cons_succ]
          refine takeQ 8 23 ((.int .i64 (j : Nat))) ?_
          simp only [Act.put, List.setIfInBounds_toArray, List.set_cons_zero, List.set_cons_succ]
          refine takeQ 9 24 ((.pointer (some ⟨ob, oo + j * 9, none⟩))) ?_
          simp only [Act.put, List.setIfInBounds_toArray, List.set_cons_zero, List.set_cons_succ]
          refine takeQ 10 25 ((.pointer (some ⟨ob, oo + j * 9 + 5, none⟩))) ?_
          simp only [Act.put, List.setIfInBounds_toArray, List.set_cons_zero, List.set_cons_succ]
          refine takeQ 11 26 ((.int .i64 x.t)) ?_ (hy := by (intro _w hSw; have q0 := (HX.out _ hSw).c5; clear hSw; go_simp))
          simp only [Act.put, List.setIfInBounds_toArray, List.set_cons_zero, List.set_cons_succ]
          refine takeQ 12 27 ((.int .i64 t)) ?_
          simp only [Act.put, List.setIfInBounds_toArray, List.set_cons_zero, List.set_cons_succ]
          refine takeQ 13 28 ((.bool false)) ?_
          simp only [Act.put, List.setIfInBounds_toArray, List.set_cons_zero, List.set_cons_succ]
          refine takeQ 14 29 ((.bool false)) ?_
          simp only [Act.put, List.setIfInBounds_toArray, List.set_cons_zero, List.set_cons_succ]
          refine takeQ 15 30 ((.bool false)) ?_
          simp only [Act.put, List.setIfInBounds_toArray, List.set_cons_zero, List.set_cons_succ]
          refine skipQ 16 31 ?_
          simp only [Act.put, List.setIfInBounds_toArray, List.set_cons_zero, List.set_cons_succ]
          refine skipQ 17 32 ?_
          simp only [Act.put, List.setIfInBounds_toArray, List.set_cons_zero, List.set_cons_succ]
          refine skipQ 18 33 ?_
          simp only [Act.put, List.setIfInBounds_toArray, List.set_cons_zero, List.set_cons_succ]
          refine skipQ 19 34 ?_
          simp only [Act.put, List.setIfInBounds_toArray, List.set_cons_zero, List.set_cons_succ]
          refine skipQ 20 35 ?_
          simp only [Act.put, List.setIfInBounds_toArray, List.set_cons_zero, List.set_cons_succ]
          refine skipQ 21 36 ?_
          simp only [Act.put, List.setIfInBounds_toArray, List.set_cons_zero, List.set_cons_succ]
          refine skipQ 22 37 ?_
          simp only [Act.put, List.setIfInBounds_toArray, List.set_cons_zero, List.set_cons_succ]
          refine skipQ 23 38 ?_
          simp only [Act.put, List.setIfInBounds_toArray, List.set_cons_zero, List.set_cons_succ]
          refine skipQ 24 39 ?_
          simp only [Act.put, List.setIfInBounds_toArray, List.set_cons_zero, List.set_cons_succ]
          refine skipQ 25 40 ?_
          simp only [Act.put, List.setIfInBounds_toArray, List.set_cons_zero, List.set_cons_succ]
          refine skipQ 26 41 ?_
          simp only [Act.put, List.setIfInBounds_toArray, List.set_cons_zero, List.set_cons_succ]
          refine takeQ 27 42 ((.bool false)) ?_
          simp only [Act.put, List.setIfInBounds_toArray, List.set_cons_zero, List.set_cons_succ]
          refine wpAnyH_done (by kernel_rfl) ?_ _
          have HBR := Lib.hid hHeld
          clear hHeld
          go_wp2
          go_roundg gk
          case measure => omega
          case rel => exact ⟨j + 1, _, by go_num, rfl, by omega, HE.out, HBR.out⟩
/-- the spans of a transaction's datoms like one, that are Add, or are not -/
def saidL (d : Dat) (t : Int) (add : Bool) (l : List Dat) : List Sp := (l.filter (fun x => alikeB x d && (x.t == t) && (x.add == add))).map (fun x => (x.fr, x.til))
theorem saidL_take (d : Dat) (t : Int) (add : Bool) {l : List Dat} {j : Nat} {x : Dat} (hp : l[j]? = some x) : saidL d t add (l.take (j + 1)) = saidL d t add (l.take j) ++ (if alikeB x d && (x.t == t) && (x.add == add) then [(x.fr, x.til)] else []) := by
  rw [List.take_add_one, hp]
  unfold saidL
  rw [List.filter_append, List.map_append]
  congr 1
  show List.map _ (List.filter _ [x]) = _
  rw [List.filter_cons]
  split <;> rfl
theorem saidL_len (d : Dat) (t : Int) (add : Bool) (l : List Dat) : (saidL d t add l).length ≤ l.length := by
  unfold saidL
  rw [List.length_map]
  exact List.length_filter_le _ _
end Go.Proofs.YthdjlaombbeagaaGreat
