import Derived.WalkMore
import Derived.Test.YtkoknogefmfmnaaJDCmp
import Derived.Test.YtkoknogefmfmnaaJDRefC
import Derived.StillTailTactics
import Derived.Test.YtkoknogefmfmnaaJDComp
import Derived.Test.YtkoknogefmfmnaaJDSortD
import Derived.Test.YtkoknogefmfmnaaJDRefS
/-
  CONTRACT over datoms: Key.
-/
namespace Go.Proofs.Ytkoknogefmfmnaa
open Go.RowKit Go.Shelf
attribute [local go_sem] Oper.semAt_some

/-- seven parts in an array -/
def ArrAt (W : World) (b : Nat) (l : List PartP) : Prop := W.heap[b]? = some (.cells (l.flatMap cellsP).toArray 68 (0, 0))
theorem ArrAt.kept {W W' : World} {b : Nat} {l : List PartP} {row : Option Nat} (h : ArrAt W b l) (hg : W.grownBy W' row) (hr : some b ≠ row) : ArrAt W' b l := (hg.block b (Array.getElem?_eq_some_iff.1 h).1 hr).trans h
theorem ArrAt.next {W W' : World} {b B : Nat} {l : List PartP} (h : ArrAt W b l) (hb : Below B W W') (hB : b < B) : ArrAt W' b l := (hb.block b hB).trans h
theorem ArrAt.lt {W : World} {b : Nat} {l : List PartP} (h : ArrAt W b l) : b < W.heap.size := (Array.getElem?_eq_some_iff.1 h).1
theorem ArrAt.alloc {W : World} {b : Nat} {l : List PartP} (h : ArrAt W b l) (o : Obj) : ArrAt (W.alloc o) b l := (Below.heap_alloc W o b h.lt).trans h
theorem arr_set5 (l : List PartP) (x : Nat) (p : PartP) (h : l.length = 7) (hx : x < 7) :
    (((((l.flatMap cellsP).toArray.setIfInBounds (x * 5) (.bool p.v)).setIfInBounds (x * 5 + 1) (.int .i64 p.n)).setIfInBounds (x * 5 + 2) (.int .i64 p.k)).setIfInBounds (x * 5 + 3) (.int .i64 p.m)).setIfInBounds (x * 5 + 4) (.string p.s) = ((l.set x p).flatMap cellsP).toArray := by
  obtain ⟨p0, p1, p2, p3, p4, p5, p6, rfl⟩ := list7 h
  match x, hx with
  | 0, _ => simp [cellsP]
  | 1, _ => simp [cellsP]
  | 2, _ => simp [cellsP]
  | 3, _ => simp [cellsP]
  | 4, _ => simp [cellsP]
  | 5, _ => simp [cellsP]
  | 6, _ => simp [cellsP]
theorem ArrAt.set {W : World} {b : Nat} {l : List PartP} (h : ArrAt W b l) (hl : l.length = 7) (x : Nat) (hx : x < 7) (p : PartP) :
    ArrAt (((((W.setCell ⟨b, x * 5, none⟩ (.bool p.v)).setCell ⟨b, x * 5 + 1, none⟩ (.int .i64 p.n)).setCell ⟨b, x * 5 + 2, none⟩ (.int .i64 p.k)).setCell ⟨b, x * 5 + 3, none⟩ (.int .i64 p.m)).setCell ⟨b, x * 5 + 4, none⟩ (.string p.s)) b (l.set x p) := by
  show (World.heap _)[b]? = _
  rw [← arr_set5 l x p hl hx]
  exact heap_setCell_same _ _ _ _ _ _ (heap_setCell_same _ _ _ _ _ _ (heap_setCell_same _ _ _ _ _ _ (heap_setCell_same _ _ _ _ _ _ (heap_setCell_same _ _ _ _ _ _ h))))
theorem ArrAt.cell {W : World} {b : Nat} {l : List PartP} (h : ArrAt W b l) (j : Nat) : W.cell? ⟨b, j, none⟩ = (l.flatMap cellsP)[j]? := by unfold ArrAt at h; simp [World.cell?, h]
theorem ArrAt.fz {W : World} {b : Nat} {l : List PartP} (h : ArrAt W b l) (j : Nat) : W.frozen? ⟨b, j, none⟩ = false := by unfold ArrAt at h; simp [World.frozen?, h]
theorem ArrAt.at_ {W : World} {b : Nat} {l : List PartP} (h : ArrAt W b l) (hl : l.length = 7) (x i : Nat) (hx : x < 7) (hi : i < 5) : ∃ u, W.cell? ⟨b, x * 5 + i, none⟩ = some u := by
  rw [h.cell]
  have hlen : (l.flatMap cellsP).length = 35 := by
    obtain ⟨p0, p1, p2, p3, p4, p5, p6, rfl⟩ := list7 hl
    rfl
  exact ⟨_, List.getElem?_eq_getElem (by omega)⟩
theorem below_set5o {W : World} {B b o : Nat} (hb : B ≤ b) (u0 u1 u2 u3 u4 : Value) : Below B W (((((W.setCell ⟨b, o, none⟩ u0).setCell ⟨b, o + 1, none⟩ u1).setCell ⟨b, o + 2, none⟩ u2).setCell ⟨b, o + 3, none⟩ u3).setCell ⟨b, o + 4, none⟩ u4) :=
  (((((Below.refl B W).setCell (p := ⟨b, o, none⟩) hb _).setCell (p := ⟨b, o + 1, none⟩) hb _).setCell (p := ⟨b, o + 2, none⟩) hb _).setCell (p := ⟨b, o + 3, none⟩) hb _).setCell (p := ⟨b, o + 4, none⟩) hb _
theorem other_set5o {W : World} {b o k : Nat} (hk : k ≠ b) (u0 u1 u2 u3 u4 : Value) : (((((W.setCell ⟨b, o, none⟩ u0).setCell ⟨b, o + 1, none⟩ u1).setCell ⟨b, o + 2, none⟩ u2).setCell ⟨b, o + 3, none⟩ u3).setCell ⟨b, o + 4, none⟩ u4).heap[k]? = W.heap[k]? := by
  rw [Below.heap_setCell _ _ _ _ (by exact hk), Below.heap_setCell _ _ _ _ (by exact hk), Below.heap_setCell _ _ _ _ (by exact hk), Below.heap_setCell _ _ _ _ (by exact hk), Below.heap_setCell _ _ _ _ (by exact hk)]
theorem keeps_set5o {W : World} {B b o : Nat} {l : List PartP} (h : ArrAt W b l) (u0 u1 u2 u3 u4 : Value) : KeepsFrom B W (((((W.setCell ⟨b, o, none⟩ u0).setCell ⟨b, o + 1, none⟩ u1).setCell ⟨b, o + 2, none⟩ u2).setCell ⟨b, o + 3, none⟩ u3).setCell ⟨b, o + 4, none⟩ u4) :=
  have h0 := heap_setCell_same W b o _ _ u0 h
  have h1 := heap_setCell_same _ b (o + 1) _ _ u1 h0
  have h2 := heap_setCell_same _ b (o + 2) _ _ u2 h1
  have h3 := heap_setCell_same _ b (o + 3) _ _ u3 h2
  ((((keepsFrom_set (p := ⟨b, o, none⟩) h u0).trans (keepsFrom_set (p := ⟨b, o + 1, none⟩) h0 u1)).trans (keepsFrom_set (p := ⟨b, o + 2, none⟩) h1 u2)).trans (keepsFrom_set (p := ⟨b, o + 3, none⟩) h2 u3)).trans (keepsFrom_set (p := ⟨b, o + 4, none⟩) h3 u4)
theorem ArrAt.slp {W : World} {b : Nat} {l : List PartP} (h : ArrAt W b l) : SlP W W.heap.size (some ⟨b, 0, none⟩) l := fun _ => by
  refine ⟨b, 0, rfl, h.lt, fun j p hp => ?_⟩
  have k : ∀ i, i < 5 → W.cell? ⟨b, 0 + j * 5 + i, none⟩ = (cellsP p)[i]? := fun i hi => by
    rw [Nat.zero_add, h.cell, flatK cellsP 5 (fun _ => rfl) l j i hi, hp]; rfl
  exact ⟨k 0 (by omega), k 1 (by omega), k 2 (by omega), k 3 (by omega), k 4 (by omega)⟩
def zeroPs : List PartP := [zeroP, zeroP, zeroP, zeroP, zeroP, zeroP, zeroP]
/-- what stands behind some rounds -/
def KMid (w : World) (n ga pe pa pv : Nat) (d : Dat) (pre : List (Fin 7)) (W : World) : Prop :=
  n ≤ W.heap.size ∧ Below w.heap.size w W ∧ ∃ l, l.length = 7 ∧ ArrAt W ga l ∧ ∀ i ∈ pre, l[i.val]? = some (partPl pe pa pv d i.val)
theorem kMid_own (w : World) (n ga pe pa pv : Nat) (d : Dat) (h0 : w.heap.size ≤ n) (h1 : ga < n) : OwnFrom n (KMid w n ga pe pa pv d) := fun pre X Y row ⟨g0, g4, l, g1, g2, g3⟩ hg hr => by
  have hne : ∀ b, b < n → some b ≠ row := fun b hb e => by have := (hr b e.symm).1; omega
  exact ⟨Nat.le_trans g0 hg.size, g4.grown hg g4.size (fun j ej => by have := (hr j ej).1; omega), l, g1, g2.kept hg (hne _ h1), g3⟩

set_option maxRecDepth 100000 in
set_option maxHeartbeats 2000000 in
theorem keyD_in (m : Nat) (hm3 : Hid (3 ≤ m)) (o : Int) (ho : isO o = true) (pe pa pv : Nat) (hpl : ∀ X, Calls Try.prog 36 #[.int .i64 o] X fun e w' => e = .returned (.tuple #[.agg #[.int .i64 (pe : Int), .int .i64 (pa : Int), .int .i64 (pv : Int)], .bool true]) ∧ Below X.heap.size X w') (d : Dat) (hfit : fitD o d = true) (hpp : partsPl pe pa pv d = partsD o d) (hs : d.s.size ≤ maxLen) (hok : DatOk d) (w : World) :
    CallsIn Fence.wide m Try.prog 18 #[.int .i64 o, .agg #[.int .i64 d.e, .int .i64 d.a, .int .i64 d.k, .int .i64 d.m, .string d.s, .int .i64 d.t, .bool d.add, .int .i64 d.fr, .int .i64 d.til]] w (DKeyEnd w o d) := by
  have HPL := Lib.hid hpl
  have HO := Lib.hid ho
  have HFIT := Lib.hid hfit
  have HPP := Lib.hid hpp
  have HM := Lib.hid (fun X => by have h9 := dMay_any d X hs; rw [fitD_may hfit] at h9; exact h9)
  have HH := Lib.hid (fun X => by have h9 := has_any o d X; rw [(Bool.and_eq_true_iff.1 hfit).2] at h9; exact h9)
  clear hpl ho hfit hpp
  refine callsIn_of_wp_marks Try.func18 rfl trivial ?_ rfl
  simp only [Try.ntmps18, List.size_toArray, List.length_cons, List.length_nil, Nat.reduceAdd, Nat.reduceSub, Array.replicate_succ, Array.replicate_zero, List.push_toArray, List.append_toArray, List.nil_append, List.cons_append]
  gi_wp2_with fail
  refine ⟨trivial, wide_deep _, ?_⟩
  have HD0 := Lib.hid (datAt_new w d)
  have HB0 : Hid (Below w.heap.size w (w.alloc (.cells #[.int .i64 d.e, .int .i64 d.a, .int .i64 d.k, .int .i64 d.m, .string d.s, .int .i64 d.t, .bool d.add, .int .i64 d.fr, .int .i64 d.til] 36))) := (Below.refl _ _).alloc (Nat.le_refl _) _
  refine (callsIn_wide.2 (HPL.out _)).mono ?_
  rintro e w1 ⟨rfl, hb⟩
  have HB1 := Lib.hid (HB0.out.trans (hb.mono HB0.out.size))
  have HD1 := Lib.hid (HD0.out.next hb HD0.out.lt)
  have hx := HD1.out.alloc (.cells #[.int .i64 (pe : Int), .int .i64 (pa : Int), .int .i64 (pv : Int)] 59)
  have c0 := hx.c0
  have c1 := hx.c1
  have c2 := hx.c2
  have c3 := hx.c3
  have c4 := hx.c4
  have c5 := hx.c5
  have c6 := hx.c6
  have c7 := hx.c7
  have c8 := hx.c8
  clear hb hx
  gi_wp2_with fail
  obtain ⟨w1', hw1⟩ : ∃ w1', w1.alloc (.cells #[.int .i64 (pe : Int), .int .i64 (pa : Int), .int .i64 (pv : Int)] 59) = w1' := ⟨_, rfl⟩
  have HD1' : Hid (DatAt w1' w.heap.size d) := by rw [← hw1]; exact HD1.out.alloc _
  have HP1 : Hid (PlcAt w1' w1.heap.size pe pa pv) := by rw [← hw1]; exact plcAt_new _ _ _ _
  have HB1' : Hid (Below w.heap.size w w1') := by rw [← hw1]; exact HB1.out.alloc HB1.out.size _
  rw [hw1]
  clear hw1 c0 c1 c2 c3 c4 c5 c6 c7 c8
  refine ⟨trivial, wide_deep _, ?_⟩
  refine (callsIn_wide.2 (HM.out _)).mono ?_
  rintro e w2 ⟨rfl, hb⟩
  have HB2 := Lib.hid (HB1'.out.trans (hb.mono HB1'.out.size))
  have HD2 := Lib.hid (HD1'.out.next hb HD1'.out.lt)
  have HP2 := Lib.hid (HP1.out.next hb HP1.out.lt)
  have c0 := HD2.out.c0
  have c1 := HD2.out.c1
  have c2 := HD2.out.c2
  have c3 := HD2.out.c3
  have c4 := HD2.out.c4
  have c5 := HD2.out.c5
  have c6 := HD2.out.c6
  have c7 := HD2.out.c7
  have c8 := HD2.out.c8
  clear hb
  gi_wp2_with fail
  refine ⟨trivial, wide_deep _, ?_⟩
  refine (callsIn_wide.2 (HH.out _)).mono ?_
  rintro e w3 ⟨rfl, hb⟩
  have HB3 := Lib.hid (HB2.out.trans (hb.mono HB2.out.size))
  have HD3 := Lib.hid (HD2.out.next hb HD2.out.lt)
  have HP3 := Lib.hid (HP2.out.next hb HP2.out.lt)
  obtain ⟨zc, hzc⟩ : ∃ zc, zeroPs.flatMap cellsP = zc := ⟨_, rfl⟩
  have hx := HD3.out.alloc (.cells (zeroPs.flatMap cellsP).toArray 68)
  have hy := HP3.out.alloc (.cells (zeroPs.flatMap cellsP).toArray 68)
  have hzl : (zeroPs.flatMap cellsP).toArray = #[.bool false, .int .i64 0, .int .i64 0, .int .i64 0, .string ⟨#[]⟩, .bool false, .int .i64 0, .int .i64 0, .int .i64 0, .string ⟨#[]⟩, .bool false, .int .i64 0, .int .i64 0, .int .i64 0, .string ⟨#[]⟩, .bool false, .int .i64 0, .int .i64 0, .int .i64 0, .string ⟨#[]⟩, .bool false, .int .i64 0, .int .i64 0, .int .i64 0, .string ⟨#[]⟩, .bool false, .int .i64 0, .int .i64 0, .int .i64 0, .string ⟨#[]⟩, .bool false, .int .i64 0, .int .i64 0, .int .i64 0, .string ⟨#[]⟩] := rfl
  have HZL := Lib.hid hzl
  rw [hzl] at hx hy
  clear hb c0 c1 c2 c3 c4 c5 c6 c7 c8 hzl hzc
  have c0 := hx.c0
  have c1 := hx.c1
  have c2 := hx.c2
  have c3 := hx.c3
  have c4 := hx.c4
  have c5 := hx.c5
  have c6 := hx.c6
  have c7 := hx.c7
  have c8 := hx.c8
  have p0 := hy.c0
  have p1 := hy.c1
  have p2 := hy.c2
  clear hx hy
  gi_wp2_with fail
  refine ⟨trivial, wide_deep _, ?_⟩
  refine (callsIn_wide.2 (toldOfD_any _ _ _ _ _)).mono ?_
  rintro e w9 ⟨rfl, rfl⟩
  clear c0 c1 c2 c3 c4 c5 c6 c7 c8 p0 p1 p2
  gi_wp2_with fail
  rw [← HZL.out]
  obtain ⟨W2, hW2⟩ : ∃ W2, (((w3.alloc (.cells (zeroPs.flatMap cellsP).toArray 68)).alloc (.cells #[.int .i64 (pe : Int), .int .i64 (pa : Int), .int .i64 (pv : Int)] 59)).alloc (.cells #[.int .i64 d.e, .int .i64 d.a, .int .i64 d.k, .int .i64 d.m, .string d.s, .int .i64 d.t, .bool d.add, .int .i64 d.fr, .int .i64 d.til] 36)) = W2 := ⟨_, rfl⟩
  have hz : W2.heap.size = w3.heap.size + 3 := by rw [← hW2]; simp
  have hbz := HB3.out.size
  have hBw : Below w.heap.size w W2 := by rw [← hW2]; exact ((HB3.out.alloc hbz _).alloc (by simp; omega) _).alloc (by simp; omega) _
  have hAr : ArrAt W2 w3.heap.size zeroPs := by
    rw [← hW2]
    have : ArrAt (w3.alloc (.cells (zeroPs.flatMap cellsP).toArray 68)) w3.heap.size zeroPs := heap_alloc_new _ _
    exact (this.alloc _).alloc _
  have hV1 : PlcAt W2 (w3.heap.size + 1) pe pa pv := by
    rw [← hW2]
    have := plcAt_new (w3.alloc (.cells (zeroPs.flatMap cellsP).toArray 68)) pe pa pv
    rw [World.size_alloc] at this
    exact this.alloc _
  have hV2 : DatAt W2 (w3.heap.size + 1 + 1) d := by
    rw [← hW2]
    have := datAt_new ((w3.alloc (.cells (zeroPs.flatMap cellsP).toArray 68)).alloc (.cells #[.int .i64 (pe : Int), .int .i64 (pa : Int), .int .i64 (pv : Int)] 59)) d
    rw [World.size_alloc, World.size_alloc] at this
    exact this
  rw [hW2]
  clear hW2
  have hro : Fence.wide.round = none := rfl
  refine wpIn_rangeFunc_ownH hro (by have := hm3.out; omega) (gf := 58) (lb := #[.pointer (some ⟨w3.heap.size + 1, 0, none⟩), .pointer (some ⟨w3.heap.size + 1 + 1, 0, none⟩)]) rfl trivial (enters_of Try.func58 (by kernel_rfl) rfl)
    (toldD_stops (m - 1) w.heap.size (w3.heap.size + 1) (w3.heap.size + 1 + 1) pe pa pv d W2 (by omega) hV1 hV2)
    (fun h k => h.trans k) (fun W l o o' hl h h1 h2 => keep2_b (w := W2) (n₀ := w.heap.size) (by omega) (by omega) (by omega) W l o o' hl h h1 h2) (Below.refl _ _) (fun _ => rfl)
    (KMid w W2.heap.size w3.heap.size pe pa pv d) (fun _ _ _ => False) (kMid_own _ _ _ _ _ _ _ (by omega) (by omega)) (fun _ _ _ _ _ h => h.elim)
    ⟨Nat.le_refl _, hBw, zeroPs, rfl, hAr, fun i h => by cases h⟩
    (fun x a' W => ∃ g, PartBox W g (partPl pe pa pv d x.val) ∧ a' = { tmps := #[.int .i64 o, .agg #[.int .i64 d.e, .int .i64 d.a, .int .i64 d.k, .int .i64 d.m, .string d.s, .int .i64 d.t, .bool d.add, .int .i64 d.fr, .int .i64 d.til], undef, .pointer (some ⟨w.heap.size, 0, none⟩), .slice none 0 0, .int .i64 0, .pointer (some ⟨w1.heap.size, 0, none⟩), .bool true, .pointer (some ⟨w3.heap.size, 0, none⟩), .int .i64 ((x.val : Nat) : Int), .pointer (some ⟨g, 0, none⟩), .tuple #[.agg #[.int .i64 (pe : Int), .int .i64 (pa : Int), .int .i64 (pv : Int)], .bool true], .int .i64 o, .tuple #[.agg #[.int .i64 (pe : Int), .int .i64 (pa : Int), .int .i64 (pv : Int)], .bool true], .agg #[.int .i64 (pe : Int), .int .i64 (pa : Int), .int .i64 (pv : Int)], .bool true, .bool true, .bool false, .agg #[.int .i64 d.e, .int .i64 d.a, .int .i64 d.k, .int .i64 d.m, .string d.s, .int .i64 d.t, .bool d.add, .int .i64 d.fr, .int .i64 d.til], .bool true, .bool false, .bool false, .int .i64 o, .agg #[.int .i64 d.e, .int .i64 d.a, .int .i64 d.k, .int .i64 d.m, .string d.s, .int .i64 d.t, .bool d.add, .int .i64 d.fr, .int .i64 d.til], .bool true, .bool false, .bool false, .agg #[.int .i64 (pe : Int), .int .i64 (pa : Int), .int .i64 (pv : Int)], .agg #[.int .i64 d.e, .int .i64 d.a, .int .i64 d.k, .int .i64 d.m, .string d.s, .int .i64 d.t, .bool d.add, .int .i64 d.fr, .int .i64 d.til], .func (.func 58) #[] #[.pointer (some ⟨w3.heap.size + 1, 0, none⟩), .pointer (some ⟨w3.heap.size + 1 + 1, 0, none⟩)], .int .i64 ((x.val : Nat) : Int), .agg #[.bool (partPl pe pa pv d x.val).v, .int .i64 (partPl pe pa pv d x.val).n, .int .i64 (partPl pe pa pv d x.val).k, .int .i64 (partPl pe pa pv d x.val).m, .string (partPl pe pa pv d x.val).s], undef, undef, undef, undef, undef, undef, undef], defers := [] })
    (fun x a' _ X Y row ⟨g, hg, e⟩ hgr hr => ⟨g, hg.kept hgr (fun r e => (hr r e).2), e⟩) ?assign ?body ?done ?stop
  case assign =>
    rintro lp pre x W K ⟨h0, h1, l, h2, h3, h4⟩ hK
    gi_wp2
    refine hK _ _ (keepsFrom_below ((Below.refl _ W).alloc (Nat.le_refl _) _)) (keep2_below ((Below.refl _ W).alloc (Nat.le_refl _) _) (by omega) (by omega) (by omega)) ⟨(by simp; omega), h1.alloc h1.size _, l, h2, h3.alloc _, h4⟩ ⟨W.heap.size, partBox_new _ _, rfl⟩
  case body =>
    rintro lp pre x a' W hwl _ ⟨h0, h1, l, h2, h3, h4⟩ ⟨g, hg, rfl⟩ hlt
    have k0 := hg.k0
    have k1 := hg.k1
    have k2 := hg.k2
    have k3 := hg.k3
    have k4 := hg.k4
    have hxl : ((x.val : Nat) : Int) < 7 := by have := x.isLt; omega
    obtain ⟨u0, a0⟩ := h3.at_ h2 x.val 0 x.isLt (by omega)
    rw [Nat.add_zero] at a0
    obtain ⟨u1, a1⟩ := h3.at_ h2 x.val 1 x.isLt (by omega)
    obtain ⟨u2, a2⟩ := h3.at_ h2 x.val 2 x.isLt (by omega)
    obtain ⟨u3, a3⟩ := h3.at_ h2 x.val 3 x.isLt (by omega)
    obtain ⟨u4, a4⟩ := h3.at_ h2 x.val 4 x.isLt (by omega)
    have f0 := h3.fz (x.val * 5)
    have f1 := h3.fz (x.val * 5 + 1)
    have f2 := h3.fz (x.val * 5 + 2)
    have f3 := h3.fz (x.val * 5 + 3)
    have f4 := h3.fz (x.val * 5 + 4)
    have H1 := Lib.hid h1
    have H3 := Lib.hid h3
    have H4 := Lib.hid h4
    have HX := Lib.hid x.isLt
    clear h1 h3 h4
    gi_wp2
    refine ⟨keeps_set5o H3.out _ _ _ _ _, ⟨below_set5o (by omega) _ _ _ _ _, other_set5o (by omega) _ _ _ _ _, other_set5o (by omega) _ _ _ _ _⟩, (by simpa using h0), H1.out.trans (below_set5o (by omega) _ _ _ _ _), l.set x.val (partPl pe pa pv d x.val), (by rw [List.length_set]; exact h2), H3.out.set h2 x.val HX.out _, fun i hi => ?_⟩
    rw [List.getElem?_set]
    by_cases hxi : x.val = i.val
    · rw [if_pos hxi, if_pos (by omega), hxi]
    · rw [if_neg hxi]
      rcases List.mem_append.1 hi with hi | hi
      · exact H4.out i hi
      · exact absurd (congrArg Fin.val (List.mem_singleton.1 hi)).symm hxi
  case done =>
    rintro D ys W hD hys ⟨h0, h1, l, h2, h3, h4⟩ hK
    subst hys
    have hl : l = partsD o d := by
      rw [← HPP.out]
      refine List.ext_getElem? fun i => ?_
      by_cases hi : i < 7
      · have h9 := h4 ⟨i, hi⟩ (List.mem_of_getElem? (allF_at i hi))
        rw [h9]
        unfold partsPl
        rw [List.getElem?_map, List.getElem?_range hi]; rfl
      · rw [List.getElem?_eq_none (by omega), List.getElem?_eq_none (by rw [partsPl_len]; omega)]
    subst hl
    have hsp : SlP W W.heap.size (some ⟨w3.heap.size, 0, none⟩) (partsD o d) := h3.slp
    have HSP := Lib.hid hsp
    have HB := Lib.hid h1
    have HKD := Lib.hid hK
    have HC := Lib.hid (partsD_cost HO.out d)
    have HLN : Hid ((partsD o d).length = 7) := partsD_len o d
    have HPM := Lib.hid (partsD_allMay (o := o) (mayD_val (fitD_may HFIT.out)))
    have HOK := Lib.hid (partsD_ok (o := o) hok)
    have hkey := key_big (some ⟨w3.heap.size, 0, none⟩) 7 (partsD o d) W HSP.out (by rw [HC.out]; have := mayB_size (mayD_val (fitD_may HFIT.out)); omega) HOK.out
    rw [HLN.out] at hkey
    have HKEY := Lib.hid hkey
    clear hsp h1 h2 h3 h4 hK hkey
    gi_wp2_with fail
    refine ⟨trivial, wide_deep _, ?_⟩
    refine (callsIn_wide.2 HKEY.out).mono ?_
    rintro e w4 (⟨_, ⟨v, rfl, ho4⟩, hb⟩ | ⟨hno, _, _⟩)
    · have HB4 := Lib.hid (HB.out.trans (hb.mono HB.out.size))
      have HO4 := Lib.hid (ho4.from_ HB.out.size)
      have HK4 : Hid (w4.heap[D]? = some (.deferred (some []))) := (hb.block D (Array.getElem?_eq_some_iff.1 HKD.out).1).trans HKD.out
      clear hb ho4
      gi_wp2
      refine ⟨by simp, .inl ⟨_, _, rfl, run_takeDeferred HK4.out, ?_⟩⟩
      exact ⟨_, results_tmp2 rfl _ _ _, by exact ⟨.inr (.inr ⟨HFIT.out, _, rfl, HO4.out.kept (grownBy_putObj' w4 D (.deferred none)) (fun r e => by injection e with e; subst e; exact ⟨_, HK4.out, rfl⟩)⟩), HB4.out.trans (belowK_b (w := W2) (n₀ := w.heap.size) (by omega) w4 D _ (.deferred none) hD HK4.out rfl rfl)⟩⟩
    · rw [HPM.out] at hno
      cases hno
  case stop =>
    rintro D cd pre W _ _ h _
    exact h.elim

set_option maxRecDepth 100000 in
set_option maxHeartbeats 1000000 in
theorem keyD_noO (o : Int) (d : Dat) (w : World) (ho : isO o = false) : Calls Try.prog 18 #[.int .i64 o, .agg #[.int .i64 d.e, .int .i64 d.a, .int .i64 d.k, .int .i64 d.m, .string d.s, .int .i64 d.t, .bool d.add, .int .i64 d.fr, .int .i64 d.til]] w (DKeyEnd w o d) := by
  have HO := Lib.hid ho
  have HB0 : Hid (Below w.heap.size w (w.alloc (.cells #[.int .i64 d.e, .int .i64 d.a, .int .i64 d.k, .int .i64 d.m, .string d.s, .int .i64 d.t, .bool d.add, .int .i64 d.fr, .int .i64 d.til] 36))) := (Below.refl _ _).alloc (Nat.le_refl _) _
  have h9 := placesOf_any o (w.alloc (.cells #[.int .i64 d.e, .int .i64 d.a, .int .i64 d.k, .int .i64 d.m, .string d.s, .int .i64 d.t, .bool d.add, .int .i64 d.fr, .int .i64 d.til] 36))
  have e : plcV o = .agg #[.int .i64 (0 : Int), .int .i64 (0 : Int), .int .i64 (0 : Int)] := by
    unfold plcV
    have := noO ho
    rw [if_neg (by omega), if_neg (by omega), if_neg (by omega), if_neg (by omega)]
  rw [ho, e] at h9
  have H9 := Lib.hid h9
  clear ho h9 e
  go_enter Try.func18, Try.ntmps18
  go_wp2_with fail
  refine H9.out.mono ?_
  rintro e w1 ⟨rfl, hb⟩
  have HB1 := Lib.hid (HB0.out.trans (hb.mono HB0.out.size))
  clear hb
  go_wp2
  go_ret2
  exact ⟨.inl ⟨HO.out, rfl⟩, HB1.out.alloc HB1.out.size _⟩

set_option maxRecDepth 100000 in
set_option maxHeartbeats 1000000 in
theorem keyD_noFit (o : Int) (ho : isO o = true) (d : Dat) (w : World) (hs : d.s.size ≤ maxLen) (hfit : fitD o d = false) : Calls Try.prog 18 #[.int .i64 o, .agg #[.int .i64 d.e, .int .i64 d.a, .int .i64 d.k, .int .i64 d.m, .string d.s, .int .i64 d.t, .bool d.add, .int .i64 d.fr, .int .i64 d.til]] w (DKeyEnd w o d) := by
  have HO := Lib.hid ho
  have HF := Lib.hid hfit
  have HB0 : Hid (Below w.heap.size w (w.alloc (.cells #[.int .i64 d.e, .int .i64 d.a, .int .i64 d.k, .int .i64 d.m, .string d.s, .int .i64 d.t, .bool d.add, .int .i64 d.fr, .int .i64 d.til] 36))) := (Below.refl _ _).alloc (Nat.le_refl _) _
  have HD0 := Lib.hid (datAt_new w d)
  have h9 := placesOf_any o (w.alloc (.cells #[.int .i64 d.e, .int .i64 d.a, .int .i64 d.k, .int .i64 d.m, .string d.s, .int .i64 d.t, .bool d.add, .int .i64 d.fr, .int .i64 d.til] 36))
  rw [ho, plcV_is ho] at h9
  obtain ⟨pe, hpe⟩ : ∃ p, plE o = p := ⟨_, rfl⟩
  obtain ⟨pa, hpa⟩ : ∃ p, plA o = p := ⟨_, rfl⟩
  obtain ⟨pv, hpv⟩ : ∃ p, plV o = p := ⟨_, rfl⟩
  rw [hpe, hpa, hpv] at h9
  have H9 := Lib.hid h9
  obtain ⟨b1, h1⟩ : ∃ b, mayD d = b := ⟨_, rfl⟩
  have HM := Lib.hid (fun X => by have h8 := dMay_any d X hs; rw [h1] at h8; exact h8)
  have HH := Lib.hid (fun (h2 : b1 = true) X => by have h8 := has_any o d X; rw [show hasD o d = false from by have := hfit; unfold fitD at this; rw [h1, h2] at this; simpa using this] at h8; exact h8)
  clear ho h9 hfit hpe hpa hpv h1
  go_enter Try.func18, Try.ntmps18
  go_wp2_with fail
  refine H9.out.mono ?_
  rintro e w1 ⟨rfl, hb⟩
  have HB1 := Lib.hid (HB0.out.trans (hb.mono HB0.out.size))
  have HD1 := Lib.hid (HD0.out.next hb HD0.out.lt)
  have hx := HD1.out.alloc (.cells #[.int .i64 (pe : Int), .int .i64 (pa : Int), .int .i64 (pv : Int)] 59)
  have HB1' := Lib.hid (HB1.out.alloc HB1.out.size (.cells #[.int .i64 (pe : Int), .int .i64 (pa : Int), .int .i64 (pv : Int)] 59))
  have HDX := Lib.hid hx
  have c0 := hx.c0
  have c1 := hx.c1
  have c2 := hx.c2
  have c3 := hx.c3
  have c4 := hx.c4
  have c5 := hx.c5
  have c6 := hx.c6
  have c7 := hx.c7
  have c8 := hx.c8
  clear hb hx
  go_wp2_with fail
  refine (HM.out _).mono ?_
  rintro e w2 ⟨rfl, hb⟩
  have HB2 := Lib.hid (HB1'.out.trans (hb.mono HB1'.out.size))
  have HD2 := Lib.hid (HDX.out.next hb HDX.out.lt)
  clear hb c0 c1 c2 c3 c4 c5 c6 c7 c8
  cases b1
  · go_wp2
    go_ret2
    exact ⟨.inr (.inl ⟨HO.out, HF.out, rfl⟩), HB2.out⟩
  have c0 := HD2.out.c0
  have c1 := HD2.out.c1
  have c2 := HD2.out.c2
  have c3 := HD2.out.c3
  have c4 := HD2.out.c4
  have c5 := HD2.out.c5
  have c6 := HD2.out.c6
  have c7 := HD2.out.c7
  have c8 := HD2.out.c8
  go_wp2_with fail
  refine (HH.out (by trivial) _).mono ?_
  rintro e w3 ⟨rfl, hb⟩
  have HB3 := Lib.hid (HB2.out.trans (hb.mono HB2.out.size))
  clear hb c0 c1 c2 c3 c4 c5 c6 c7 c8
  go_wp2
  go_ret2
  exact ⟨.inr (.inl ⟨HO.out, HF.out, rfl⟩), HB3.out⟩
/-- Key, as the document has it. -/
theorem keyD_any (o : Int) (d : Dat) (w : World) (hs : d.s.size ≤ maxLen) (hok : DatOk d) : Calls Try.prog 18 #[.int .i64 o, .agg #[.int .i64 d.e, .int .i64 d.a, .int .i64 d.k, .int .i64 d.m, .string d.s, .int .i64 d.t, .bool d.add, .int .i64 d.fr, .int .i64 d.til]] w (DKeyEnd w o d) := by
  cases ho : isO o
  · exact keyD_noO o d w ho
  · cases hf : fitD o d
    · exact keyD_noFit o ho d w hs hf
    · exact (callsIn_wide (n := 9)).1 (keyD_in 9 (Nat.le_of_ble_eq_true rfl) o ho (plE o) (plA o) (plV o) (fun X => by have h9 := placesOf_any o X; rw [plcV_is ho, ho] at h9; exact h9) d hf rfl hs hok w)
/-- Compare, in no order. -/
theorem cmpD_no (o : Int) (a b : Dat) (w : World) (ho : isO o = false) : Calls Try.prog 16 #[.int .i64 o, .agg #[.int .i64 a.e, .int .i64 a.a, .int .i64 a.k, .int .i64 a.m, .string a.s, .int .i64 a.t, .bool a.add, .int .i64 a.fr, .int .i64 a.til], .agg #[.int .i64 b.e, .int .i64 b.a, .int .i64 b.k, .int .i64 b.m, .string b.s, .int .i64 b.t, .bool b.add, .int .i64 b.fr, .int .i64 b.til]] w fun e w' => e = .returned (.int .i64 (ordD o a b)) ∧ Below w.heap.size w w' := by
  have HE : Hid (ordD o a b = 0) := by show _ = _; unfold ordD; rw [ho]; rfl
  have HB0 : Hid (Below w.heap.size w ((w.alloc (.cells #[.int .i64 a.e, .int .i64 a.a, .int .i64 a.k, .int .i64 a.m, .string a.s, .int .i64 a.t, .bool a.add, .int .i64 a.fr, .int .i64 a.til] 36)).alloc (.cells #[.int .i64 b.e, .int .i64 b.a, .int .i64 b.k, .int .i64 b.m, .string b.s, .int .i64 b.t, .bool b.add, .int .i64 b.fr, .int .i64 b.til] 36))) := ((Below.refl _ _).alloc (Nat.le_refl _) _).alloc (by simp) _
  have h9 := placesOf_any o ((w.alloc (.cells #[.int .i64 a.e, .int .i64 a.a, .int .i64 a.k, .int .i64 a.m, .string a.s, .int .i64 a.t, .bool a.add, .int .i64 a.fr, .int .i64 a.til] 36)).alloc (.cells #[.int .i64 b.e, .int .i64 b.a, .int .i64 b.k, .int .i64 b.m, .string b.s, .int .i64 b.t, .bool b.add, .int .i64 b.fr, .int .i64 b.til] 36))
  have e : plcV o = .agg #[.int .i64 (0 : Int), .int .i64 (0 : Int), .int .i64 (0 : Int)] := by
    unfold plcV
    have := noO ho
    rw [if_neg (by omega), if_neg (by omega), if_neg (by omega), if_neg (by omega)]
  rw [ho, e] at h9
  have H9 := Lib.hid h9
  clear ho h9 e
  go_enter Try.func16, Try.ntmps16
  go_wp2
  go_step3
  go_wp2_with fail
  refine H9.out.mono ?_
  rintro e w1 ⟨rfl, hb⟩
  have HB1 := Lib.hid (HB0.out.trans (hb.mono HB0.out.size))
  clear hb
  go_wp2
  rw [Exit.noGoto_ret]
  go_ret
  exact ⟨by rw [HE.out]; rfl, HB1.out.alloc HB1.out.size _⟩
theorem cmpD_any (o : Int) (a b : Dat) (w : World) : Calls Try.prog 16 #[.int .i64 o, .agg #[.int .i64 a.e, .int .i64 a.a, .int .i64 a.k, .int .i64 a.m, .string a.s, .int .i64 a.t, .bool a.add, .int .i64 a.fr, .int .i64 a.til], .agg #[.int .i64 b.e, .int .i64 b.a, .int .i64 b.k, .int .i64 b.m, .string b.s, .int .i64 b.t, .bool b.add, .int .i64 b.fr, .int .i64 b.til]] w fun e w' => e = .returned (.int .i64 (ordD o a b)) ∧ Below w.heap.size w w' := by
  cases ho : isO o
  · exact cmpD_no o a b w ho
  · exact cmpD_yes o a b w ho
end Go.Proofs.Ytkoknogefmfmnaa

/-
  CONTRACT over datoms: the datom that has parts.
-/
namespace Go.Proofs.Ytkoknogefmfmnaa
open Go.RowKit

/-- a datom in a slot -/
def dV (d : Dat) : Value := .agg #[.int .i64 d.e, .int .i64 d.a, .int .i64 d.k, .int .i64 d.m, .string d.s, .int .i64 d.t, .bool d.add, .int .i64 d.fr, .int .i64 d.til]
/-- the datom that has parts, E, A and V at any three places -/
def datPl (pe pa pv : Nat) (l : List PartP) : Dat :=
  ⟨((l[pe]?).getD (numP 0)).n, ((l[pa]?).getD (numP 0)).n, ((l[pv]?).getD (numP 0)).k, ((l[pv]?).getD (numP 0)).m, ((l[pv]?).getD (numP 0)).s, ((l[3]?).getD (numP 0)).n, decide (((l[4]?).getD (numP 0)).n = 0), ((l[5]?).getD (numP 0)).n, ((l[6]?).getD (numP 0)).n⟩
theorem datPl_is (o : Int) (l : List PartP) : datPl (plE o) (plA o) (plV o) l = datL o l := rfl
theorem SlP.get {W : World} {b o : Nat} {l : List PartP} (h : ∀ (j : Nat) (p : PartP), l[j]? = some p → PartAt W b (o + j * 5) p) (j : Nat) (hj : j < l.length) : PartAt W b (o + j * 5) ((l[j]?).getD (numP 0)) := by
  have h1 := h j l[j] (List.getElem?_eq_getElem hj)
  rw [List.getElem?_eq_getElem hj]
  exact h1
/-- what the region reads -/
def MS (wz b o pe pa pv : Nat) (xe xa xv x3 x5 x6 : PartP) (W : World) : Prop :=
  (W.cell? ⟨wz, 0, none⟩ = some (.int .i64 (pe : Int)) ∧ W.cell? ⟨wz, 1, none⟩ = some (.int .i64 (pa : Int)) ∧ W.cell? ⟨wz, 2, none⟩ = some (.int .i64 (pv : Int))) ∧
  W.cell? ⟨b, o + pe * 5 + 1, none⟩ = some (.int .i64 xe.n) ∧ W.cell? ⟨b, o + pa * 5 + 1, none⟩ = some (.int .i64 xa.n) ∧
  (W.cell? ⟨b, o + pv * 5 + 2, none⟩ = some (.int .i64 xv.k) ∧ W.cell? ⟨b, o + pv * 5 + 2 + 1, none⟩ = some (.int .i64 xv.m) ∧ W.cell? ⟨b, o + pv * 5 + 2 + 2, none⟩ = some (.string xv.s)) ∧
  W.cell? ⟨b, o + 15 + 1, none⟩ = some (.int .i64 x3.n) ∧ W.cell? ⟨b, o + 25 + 1, none⟩ = some (.int .i64 x5.n) ∧ W.cell? ⟨b, o + 30 + 1, none⟩ = some (.int .i64 x6.n)
theorem MS.next {wz b o pe pa pv B : Nat} {xe xa xv x3 x5 x6 : PartP} {W W' : World} (h : MS wz b o pe pa pv xe xa xv x3 x5 x6 W) (hb : Below B W W') (h1 : wz < B) (h2 : b < B) : MS wz b o pe pa pv xe xa xv x3 x5 x6 W' := by
  obtain ⟨⟨a0, a1, a2⟩, a3, a4, ⟨a5, a6, a7⟩, a8, a9, a10⟩ := h
  have k1 : ∀ j, W'.cell? ⟨wz, j, none⟩ = W.cell? ⟨wz, j, none⟩ := fun j => hb.cell (p := ⟨wz, j, none⟩) h1
  have k2 : ∀ j, W'.cell? ⟨b, j, none⟩ = W.cell? ⟨b, j, none⟩ := fun j => hb.cell (p := ⟨b, j, none⟩) h2
  exact ⟨⟨(k1 _).trans a0, (k1 _).trans a1, (k1 _).trans a2⟩, (k2 _).trans a3, (k2 _).trans a4, ⟨(k2 _).trans a5, (k2 _).trans a6, (k2 _).trans a7⟩, (k2 _).trans a8, (k2 _).trans a9, (k2 _).trans a10⟩
theorem DatAt.set9 {W : World} {b : Nat} {d : Dat} (h : DatAt W b d) (q : Dat) :
    DatAt (((((((((W.setCell ⟨b, 0, none⟩ (.int .i64 q.e)).setCell ⟨b, 1, none⟩ (.int .i64 q.a)).setCell ⟨b, 2, none⟩ (.int .i64 q.k)).setCell ⟨b, 3, none⟩ (.int .i64 q.m)).setCell ⟨b, 4, none⟩ (.string q.s)).setCell ⟨b, 5, none⟩ (.int .i64 q.t)).setCell ⟨b, 6, none⟩ (.bool q.add)).setCell ⟨b, 7, none⟩ (.int .i64 q.fr)).setCell ⟨b, 8, none⟩ (.int .i64 q.til)) b q :=
  (heap_setCell_same _ _ _ _ _ _ (heap_setCell_same _ _ _ _ _ _ (heap_setCell_same _ _ _ _ _ _ (heap_setCell_same _ _ _ _ _ _ (heap_setCell_same _ _ _ _ _ _ (heap_setCell_same _ _ _ _ _ _ (heap_setCell_same _ _ _ _ _ _ (heap_setCell_same _ _ _ _ _ _ (heap_setCell_same _ _ _ _ _ _ h))))))))).trans (by simp)
theorem below_set9 {W : World} {B b : Nat} (hb : B ≤ b) (u0 u1 u2 u3 u4 u5 u6 u7 u8 : Value) :
    Below B W (((((((((W.setCell ⟨b, 0, none⟩ u0).setCell ⟨b, 1, none⟩ u1).setCell ⟨b, 2, none⟩ u2).setCell ⟨b, 3, none⟩ u3).setCell ⟨b, 4, none⟩ u4).setCell ⟨b, 5, none⟩ u5).setCell ⟨b, 6, none⟩ u6).setCell ⟨b, 7, none⟩ u7).setCell ⟨b, 8, none⟩ u8) :=
  ((((((((((Below.refl B W).setCell (p := ⟨b, 0, none⟩) hb _).setCell (p := ⟨b, 1, none⟩) hb _).setCell (p := ⟨b, 2, none⟩) hb _).setCell (p := ⟨b, 3, none⟩) hb _).setCell (p := ⟨b, 4, none⟩) hb _).setCell (p := ⟨b, 5, none⟩) hb _).setCell (p := ⟨b, 6, none⟩) hb _).setCell (p := ⟨b, 7, none⟩) hb _).setCell (p := ⟨b, 8, none⟩) hb _)

set_option maxRecDepth 100000 in
set_option maxHeartbeats 2000000 in
theorem meth_any (pe pa pv : Nat) (hpe : pe < 7) (hpa : pa < 7) (hpv : pv < 7) (A : Option Addr) (c : Nat) (l : List PartP) (w : World) (hs : SlP w w.heap.size A l) (hl : l.length = 7) :
    Calls Try.prog 44 #[.agg #[.int .i64 (pe : Int), .int .i64 (pa : Int), .int .i64 (pv : Int)], .slice A 7 c] w fun e w' => e = .returned (.tuple #[dV (datPl pe pa pv l), .bool (addOk l)]) ∧ Below w.heap.size w w' := by
  obtain ⟨b, o, rfl, hbl, hp⟩ := hs (by intro e; rw [e] at hl; cases hl)
  have he := SlP.get hp pe (by omega)
  have ha := SlP.get hp pa (by omega)
  have hv := SlP.get hp pv (by omega)
  have h3 := SlP.get hp 3 (by omega)
  have h4 := SlP.get hp 4 (by omega)
  have h5 := SlP.get hp 5 (by omega)
  have h6 := SlP.get hp 6 (by omega)
  have HAO : Hid (addOk l = decide (((l[4]?).getD (numP 0)).n = 0 ∨ ((l[4]?).getD (numP 0)).n = 1)) := rfl
  have HDP : Hid (datPl pe pa pv l = ⟨((l[pe]?).getD (numP 0)).n, ((l[pa]?).getD (numP 0)).n, ((l[pv]?).getD (numP 0)).k, ((l[pv]?).getD (numP 0)).m, ((l[pv]?).getD (numP 0)).s, ((l[3]?).getD (numP 0)).n, decide (((l[4]?).getD (numP 0)).n = 0), ((l[5]?).getD (numP 0)).n, ((l[6]?).getD (numP 0)).n⟩) := rfl
  obtain ⟨xe, hxe⟩ : ∃ x, (l[pe]?).getD (numP 0) = x := ⟨_, rfl⟩
  obtain ⟨xa, hxa⟩ : ∃ x, (l[pa]?).getD (numP 0) = x := ⟨_, rfl⟩
  obtain ⟨xv, hxv⟩ : ∃ x, (l[pv]?).getD (numP 0) = x := ⟨_, rfl⟩
  obtain ⟨x3, hx3⟩ : ∃ x, (l[3]?).getD (numP 0) = x := ⟨_, rfl⟩
  obtain ⟨x4, hx4⟩ : ∃ x, (l[4]?).getD (numP 0) = x := ⟨_, rfl⟩
  obtain ⟨x5, hx5⟩ : ∃ x, (l[5]?).getD (numP 0) = x := ⟨_, rfl⟩
  obtain ⟨x6, hx6⟩ : ∃ x, (l[6]?).getD (numP 0) = x := ⟨_, rfl⟩
  rw [hxe] at he HDP
  rw [hxa] at ha HDP
  rw [hxv] at hv HDP
  rw [hx3] at h3 HDP
  rw [hx4] at h4 HDP HAO
  rw [hx5] at h5 HDP
  rw [hx6] at h6 HDP
  obtain ⟨w0, hw0⟩ : ∃ w0, (w.alloc (.cells #[.int .i64 (pe : Int), .int .i64 (pa : Int), .int .i64 (pv : Int)] 59)).alloc (.cells #[.int .i64 0, .int .i64 0, .int .i64 0, .int .i64 0, .string ⟨#[]⟩, .int .i64 0, .bool false, .int .i64 0, .int .i64 0] 36) = w0 := ⟨_, rfl⟩
  have HBW : Hid (Below w.heap.size w w0) := by rw [← hw0]; exact ((Below.refl _ _).alloc (Nat.le_refl _) _).alloc (by simp) _
  have HPW : Hid (PlcAt w0 w.heap.size pe pa pv) := by rw [← hw0]; exact (plcAt_new _ _ _ _).alloc _
  have HZW : Hid (DatAt w0 (w.heap.size + 1) ⟨0, 0, 0, 0, ⟨#[]⟩, 0, false, 0, 0⟩) := by
    rw [← hw0]
    have := datAt_new (w.alloc (.cells #[.int .i64 (pe : Int), .int .i64 (pa : Int), .int .i64 (pv : Int)] 59)) ⟨0, 0, 0, 0, ⟨#[]⟩, 0, false, 0, 0⟩
    rwa [World.size_alloc] at this
  have HW0 := Lib.hid hw0
  have e1 := (he.next HBW.out hbl).c1
  have a1 := (ha.next HBW.out hbl).c1
  have v2 := (hv.next HBW.out hbl).c2
  have v3 := (hv.next HBW.out hbl).c3
  have v4 := (hv.next HBW.out hbl).c4
  have t3 : w0.cell? ⟨b, o + 15 + 1, none⟩ = _ := (h3.next HBW.out hbl).c1
  have t4 : w0.cell? ⟨b, o + 20 + 1, none⟩ = _ := (h4.next HBW.out hbl).c1
  have t5 : w0.cell? ⟨b, o + 25 + 1, none⟩ = _ := (h5.next HBW.out hbl).c1
  have t6 : w0.cell? ⟨b, o + 30 + 1, none⟩ = _ := (h6.next HBW.out hbl).c1
  have p0 := HPW.out.c0
  have p1 := HPW.out.c1
  have p2 := HPW.out.c2
  have b1 : (pe : Int) < 7 := by omega
  have b2 : (pa : Int) < 7 := by omega
  have b3 : (pv : Int) < 7 := by omega
  clear hw0 hs hp he ha hv h3 h4 h5 h6 hxe hxa hxv hx3 hx4 hx5 hx6
  go_enter Try.func44, Try.ntmps44
  go_upto_region 1 with (fail)
  rw [HW0.out]
  go_wp2
  have HMS : Hid (MS w.heap.size b o pe pa pv xe xa xv x3 x5 x6 w0.drew) := ⟨⟨p0, p1, p2⟩, e1, a1, ⟨v2, v3, v4⟩, t3, t5, t6⟩
  have HMS : Hid (MS w.heap.size b o pe pa pv xe xa xv x3 x5 x6 w0.drew) := ⟨⟨p0, p1, p2⟩, e1, a1, ⟨v2, v3, v4⟩, t3, t5, t6⟩
  have HMS : Hid (MS w.heap.size b o pe pa pv xe xa xv x3 x5 x6 w0.drew) := ⟨⟨p0, p1, p2⟩, e1, a1, ⟨v2, v3, v4⟩, t3, t5, t6⟩
  have HDZ : Hid (DatAt w0.drew (w.heap.size + 1) ⟨0, 0, 0, 0, ⟨#[]⟩, 0, false, 0, 0⟩) := HZW.out
  have HBD : Hid (Below w.heap.size w w0.drew) := HBW.out.drew
  obtain ⟨wd, hwd⟩ : ∃ wd, w0.drew = wd := ⟨_, rfl⟩
  rw [hwd] at HMS HDZ HBD
  clear e1 a1 v2 v3 v4 t3 t5 t6 p0 p1 p2
  by_cases z0 : x4.n = 0
  · have q0 : (x4.n == 0) = true := by rw [z0]; rfl
    have HA0 : Hid (addOk l = true) := by show _ = _; rw [HAO.out, decide_eq_true (.inl z0)]
    have HD0 : Hid (datPl pe pa pv l = ⟨xe.n, xa.n, xv.k, xv.m, xv.s, x3.n, true, x5.n, x6.n⟩) := by show _ = _; rw [HDP.out, decide_eq_true z0]
    clear z0
    refine wp_region_held_drew (S := MS w.heap.size b o pe pa pv xe xa xv x3 x5 x6) (by kernel_rfl) (by rw [hwd]; exact HMS.out) (fun hHeld => ?_)
    rw [hwd] at hHeld ⊢
    clear hwd
    refine takeV 0 (some 11) ((.slice (some ⟨b, o, none⟩) 7 c)) rfl rfl (by kernel_rfl) (by kernel_rfl) (by kernel_rfl) (fun _ _ _ h => h) (by rfl) (by (intro _w _hSw; (try dsimp only at _hSw); go_simp)) (by assumption) ?_
    simp only [Act.put, List.setIfInBounds_toArray, List.set_cons_zero, List.set_cons_succ]
    refine takeV 1 (some 12) ((.pointer (some ⟨w.heap.size, 0, none⟩))) rfl rfl (by kernel_rfl) (by kernel_rfl) (by kernel_rfl) (fun _ _ _ h => h) (by rfl) (by (intro _w _hSw; (try dsimp only at _hSw); go_simp)) (by assumption) ?_
    simp only [Act.put, List.setIfInBounds_toArray, List.set_cons_zero, List.set_cons_succ]
    refine takeV 2 (some 13) ((.int .i64 (pe : Int))) rfl rfl (by kernel_rfl) (by kernel_rfl) (by kernel_rfl) (fun _ _ _ h => h) (by rfl) (by (intro _w hSw; have q := hSw.1.1; clear hSw; go_simp)) (by assumption) ?_
    simp only [Act.put, List.setIfInBounds_toArray, List.set_cons_zero, List.set_cons_succ]
    refine takeV 3 (some 14) ((.pointer (some ⟨b, o + pe * 5, none⟩))) rfl rfl (by kernel_rfl) (by kernel_rfl) (by kernel_rfl) (fun _ _ _ h => h) (by rfl) (by (intro _w _hSw; (try dsimp only at _hSw); go_simp)) (by assumption) ?_
    simp only [Act.put, List.setIfInBounds_toArray, List.set_cons_zero, List.set_cons_succ]
    refine takeV 4 (some 15) ((.pointer (some ⟨b, o + pe * 5 + 1, none⟩))) rfl rfl (by kernel_rfl) (by kernel_rfl) (by kernel_rfl) (fun _ _ _ h => h) (by rfl) (by (intro _w _hSw; (try dsimp only at _hSw); go_simp)) (by assumption) ?_
    simp only [Act.put, List.setIfInBounds_toArray, List.set_cons_zero, List.set_cons_succ]
    refine takeV 5 (some 16) ((.int .i64 xe.n)) rfl rfl (by kernel_rfl) (by kernel_rfl) (by kernel_rfl) (fun _ _ _ h => h) (by rfl) (by (intro _w hSw; have q := hSw.2.1; clear hSw; go_simp)) (by assumption) ?_
    simp only [Act.put, List.setIfInBounds_toArray, List.set_cons_zero, List.set_cons_succ]
    refine takeV 6 (some 17) ((.slice (some ⟨b, o, none⟩) 7 c)) rfl rfl (by kernel_rfl) (by kernel_rfl) (by kernel_rfl) (fun _ _ _ h => h) (by rfl) (by (intro _w _hSw; (try dsimp only at _hSw); go_simp)) (by assumption) ?_
    simp only [Act.put, List.setIfInBounds_toArray, List.set_cons_zero, List.set_cons_succ]
    refine takeV 7 (some 18) ((.pointer (some ⟨w.heap.size, 1, none⟩))) rfl rfl (by kernel_rfl) (by kernel_rfl) (by kernel_rfl) (fun _ _ _ h => h) (by rfl) (by (intro _w _hSw; (try dsimp only at _hSw); go_simp)) (by assumption) ?_
    simp only [Act.put, List.setIfInBounds_toArray, List.set_cons_zero, List.set_cons_succ]
    refine takeV 8 (some 19) ((.int .i64 (pa : Int))) rfl rfl (by kernel_rfl) (by kernel_rfl) (by kernel_rfl) (fun _ _ _ h => h) (by rfl) (by (intro _w hSw; have q := hSw.1.2.1; clear hSw; go_simp)) (by assumption) ?_
    simp only [Act.put, List.setIfInBounds_toArray, List.set_cons_zero, List.set_cons_succ]
    refine takeV 9 (some 20) ((.pointer (some ⟨b, o + pa * 5, none⟩))) rfl rfl (by kernel_rfl) (by kernel_rfl) (by kernel_rfl) (fun _ _ _ h => h) (by rfl) (by (intro _w _hSw; (try dsimp only at _hSw); go_simp)) (by assumption) ?_
    simp only [Act.put, List.setIfInBounds_toArray, List.set_cons_zero, List.set_cons_succ]
    refine takeV 10 (some 21) ((.pointer (some ⟨b, o + pa * 5 + 1, none⟩))) rfl rfl (by kernel_rfl) (by kernel_rfl) (by kernel_rfl) (fun _ _ _ h => h) (by rfl) (by (intro _w _hSw; (try dsimp only at _hSw); go_simp)) (by assumption) ?_
    simp only [Act.put, List.setIfInBounds_toArray, List.set_cons_zero, List.set_cons_succ]
    refine takeV 11 (some 22) ((.int .i64 xa.n)) rfl rfl (by kernel_rfl) (by kernel_rfl) (by kernel_rfl) (fun _ _ _ h => h) (by rfl) (by (intro _w hSw; have q := hSw.2.2.1; clear hSw; go_simp)) (by assumption) ?_
    simp only [Act.put, List.setIfInBounds_toArray, List.set_cons_zero, List.set_cons_succ]
    refine takeV 12 (some 23) ((.slice (some ⟨b, o, none⟩) 7 c)) rfl rfl (by kernel_rfl) (by kernel_rfl) (by kernel_rfl) (fun _ _ _ h => h) (by rfl) (by (intro _w _hSw; (try dsimp only at _hSw); go_simp)) (by assumption) ?_
    simp only [Act.put, List.setIfInBounds_toArray, List.set_cons_zero, List.set_cons_succ]
    refine takeV 13 (some 24) ((.pointer (some ⟨w.heap.size, 2, none⟩))) rfl rfl (by kernel_rfl) (by kernel_rfl) (by kernel_rfl) (fun _ _ _ h => h) (by rfl) (by (intro _w _hSw; (try dsimp only at _hSw); go_simp)) (by assumption) ?_
    simp only [Act.put, List.setIfInBounds_toArray, List.set_cons_zero, List.set_cons_succ]
    refine takeV 14 (some 25) ((.int .i64 (pv : Int))) rfl rfl (by kernel_rfl) (by kernel_rfl) (by kernel_rfl) (fun _ _ _ h => h) (by rfl) (by (intro _w hSw; have q := hSw.1.2.2; clear hSw; go_simp)) (by assumption) ?_
    simp only [Act.put, List.setIfInBounds_toArray, List.set_cons_zero, List.set_cons_succ]
    refine takeV 15 (some 26) ((.pointer (some ⟨b, o + pv * 5, none⟩))) rfl rfl (by kernel_rfl) (by kernel_rfl) (by kernel_rfl) (fun _ _ _ h => h) (by rfl) (by (intro _w _hSw; (try dsimp only at _hSw); go_simp)) (by assumption) ?_
    simp only [Act.put, List.setIfInBounds_toArray, List.set_cons_zero, List.set_cons_succ]
    refine takeV 16 (some 27) ((.pointer (some ⟨b, o + pv * 5 + 2, none⟩))) rfl rfl (by kernel_rfl) (by kernel_rfl) (by kernel_rfl) (fun _ _ _ h => h) (by rfl) (by (intro _w _hSw; (try dsimp only at _hSw); go_simp)) (by assumption) ?_
    simp only [Act.put, List.setIfInBounds_toArray, List.set_cons_zero, List.set_cons_succ]
    refine takeV 17 (some 28) ((.agg #[.int .i64 xv.k, .int .i64 xv.m, .string xv.s])) rfl rfl (by kernel_rfl) (by kernel_rfl) (by kernel_rfl) (fun _ _ _ h => h) (by rfl) (by (intro _w hSw; have qa := hSw.2.2.2.1.1; have qb := hSw.2.2.2.1.2.1; have qc := hSw.2.2.2.1.2.2; clear hSw; go_simp)) (by assumption) ?_
    simp only [Act.put, List.setIfInBounds_toArray, List.set_cons_zero, List.set_cons_succ]
    refine takeV 18 (some 29) ((.slice (some ⟨b, o, none⟩) 7 c)) rfl rfl (by kernel_rfl) (by kernel_rfl) (by kernel_rfl) (fun _ _ _ h => h) (by rfl) (by (intro _w _hSw; (try dsimp only at _hSw); go_simp)) (by assumption) ?_
    simp only [Act.put, List.setIfInBounds_toArray, List.set_cons_zero, List.set_cons_succ]
    refine takeV 19 (some 30) ((.pointer (some ⟨b, o + 15, none⟩))) rfl rfl (by kernel_rfl) (by kernel_rfl) (by kernel_rfl) (fun _ _ _ h => h) (by rfl) (by (intro _w _hSw; (try dsimp only at _hSw); go_simp)) (by assumption) ?_
    simp only [Act.put, List.setIfInBounds_toArray, List.set_cons_zero, List.set_cons_succ]
    refine takeV 20 (some 31) ((.pointer (some ⟨b, o + 15 + 1, none⟩))) rfl rfl (by kernel_rfl) (by kernel_rfl) (by kernel_rfl) (fun _ _ _ h => h) (by rfl) (by (intro _w _hSw; (try dsimp only at _hSw); go_simp)) (by assumption) ?_
    simp only [Act.put, List.setIfInBounds_toArray, List.set_cons_zero, List.set_cons_succ]
    refine takeV 21 (some 32) ((.int .i64 x3.n)) rfl rfl (by kernel_rfl) (by kernel_rfl) (by kernel_rfl) (fun _ _ _ h => h) (by rfl) (by (intro _w hSw; have q := hSw.2.2.2.2.1; clear hSw; go_simp)) (by assumption) ?_
    simp only [Act.put, List.setIfInBounds_toArray, List.set_cons_zero, List.set_cons_succ]
    refine takeV 22 (some 33) ((.int .i64 x4.n)) rfl rfl (by kernel_rfl) (by kernel_rfl) (by kernel_rfl) (fun _ _ _ h => h) (by rfl) (by (intro _w _hSw; (try dsimp only at _hSw); go_simp)) (by assumption) ?_
    simp only [Act.put, List.setIfInBounds_toArray, List.set_cons_zero, List.set_cons_succ]
    refine takeV 23 (some 34) ((.bool true)) rfl rfl (by kernel_rfl) (by kernel_rfl) (by kernel_rfl) (fun _ _ _ h => h) (by rfl) (by (intro _w _hSw; (try dsimp only at _hSw); go_simp)) (by assumption) ?_
    simp only [Act.put, List.setIfInBounds_toArray, List.set_cons_zero, List.set_cons_succ]
    refine takeV 24 (some 35) ((.slice (some ⟨b, o, none⟩) 7 c)) rfl rfl (by kernel_rfl) (by kernel_rfl) (by kernel_rfl) (fun _ _ _ h => h) (by rfl) (by (intro _w _hSw; (try dsimp only at _hSw); go_simp)) (by assumption) ?_
    simp only [Act.put, List.setIfInBounds_toArray, List.set_cons_zero, List.set_cons_succ]
    refine takeV 25 (some 36) ((.pointer (some ⟨b, o + 25, none⟩))) rfl rfl (by kernel_rfl) (by kernel_rfl) (by kernel_rfl) (fun _ _ _ h => h) (by rfl) (by (intro _w _hSw; (try dsimp only at _hSw); go_simp)) (by assumption) ?_
    simp only [Act.put, List.setIfInBounds_toArray, List.set_cons_zero, List.set_cons_succ]
    refine takeV 26 (some 37) ((.pointer (some ⟨b, o + 25 + 1, none⟩))) rfl rfl (by kernel_rfl) (by kernel_rfl) (by kernel_rfl) (fun _ _ _ h => h) (by rfl) (by (intro _w _hSw; (try dsimp only at _hSw); go_simp)) (by assumption) ?_
    simp only [Act.put, List.setIfInBounds_toArray, List.set_cons_zero, List.set_cons_succ]
    refine takeV 27 (some 38) ((.int .i64 x5.n)) rfl rfl (by kernel_rfl) (by kernel_rfl) (by kernel_rfl) (fun _ _ _ h => h) (by rfl) (by (intro _w hSw; have q := hSw.2.2.2.2.2.1; clear hSw; go_simp)) (by assumption) ?_
    simp only [Act.put, List.setIfInBounds_toArray, List.set_cons_zero, List.set_cons_succ]
    refine takeV 28 (some 39) ((.slice (some ⟨b, o, none⟩) 7 c)) rfl rfl (by kernel_rfl) (by kernel_rfl) (by kernel_rfl) (fun _ _ _ h => h) (by rfl) (by (intro _w _hSw; (try dsimp only at _hSw); go_simp)) (by assumption) ?_
    simp only [Act.put, List.setIfInBounds_toArray, List.set_cons_zero, List.set_cons_succ]
    refine takeV 29 (some 40) ((.pointer (some ⟨b, o + 30, none⟩))) rfl rfl (by kernel_rfl) (by kernel_rfl) (by kernel_rfl) (fun _ _ _ h => h) (by rfl) (by (intro _w _hSw; (try dsimp only at _hSw); go_simp)) (by assumption) ?_
    simp only [Act.put, List.setIfInBounds_toArray, List.set_cons_zero, List.set_cons_succ]
    refine takeV 30 (some 41) ((.pointer (some ⟨b, o + 30 + 1, none⟩))) rfl rfl (by kernel_rfl) (by kernel_rfl) (by kernel_rfl) (fun _ _ _ h => h) (by rfl) (by (intro _w _hSw; (try dsimp only at _hSw); go_simp)) (by assumption) ?_
    simp only [Act.put, List.setIfInBounds_toArray, List.set_cons_zero, List.set_cons_succ]
    refine takeV 31 (some 42) ((.int .i64 x6.n)) rfl rfl (by kernel_rfl) (by kernel_rfl) (by kernel_rfl) (fun _ _ _ h => h) (by rfl) (by (intro _w hSw; have q := hSw.2.2.2.2.2.2; clear hSw; go_simp)) (by assumption) ?_
    simp only [Act.put, List.setIfInBounds_toArray, List.set_cons_zero, List.set_cons_succ]
    refine takeV 32 (some 43) ((.agg #[.int .i64 xe.n, .int .i64 xa.n, .int .i64 xv.k, .int .i64 xv.m, .string xv.s, .int .i64 x3.n, .bool true, .int .i64 x5.n, .int .i64 x6.n])) rfl rfl (by kernel_rfl) (by kernel_rfl) (by kernel_rfl) (fun _ _ _ h => h) (by rfl) (by (intro _w _hSw; (try dsimp only at _hSw); go_simp)) (by assumption) ?_
    simp only [Act.put, List.setIfInBounds_toArray, List.set_cons_zero, List.set_cons_succ]
    refine takeV 33 (some 44) ((.int .i64 x4.n)) rfl rfl (by kernel_rfl) (by kernel_rfl) (by kernel_rfl) (fun _ _ _ h => h) (by rfl) (by (intro _w _hSw; (try dsimp only at _hSw); go_simp)) (by assumption) ?_
    simp only [Act.put, List.setIfInBounds_toArray, List.set_cons_zero, List.set_cons_succ]
    refine takeV 34 (some 45) ((.bool true)) rfl rfl (by kernel_rfl) (by kernel_rfl) (by kernel_rfl) (fun _ _ _ h => h) (by rfl) (by (intro _w _hSw; (try dsimp only at _hSw); go_simp)) (by assumption) ?_
    simp only [Act.put, List.setIfInBounds_toArray, List.set_cons_zero, List.set_cons_succ]
    refine takeV 35 (some 46) ((.bool true)) rfl rfl (by kernel_rfl) (by kernel_rfl) (by kernel_rfl) (fun _ _ _ h => h) (by rfl) (by (intro _w _hSw; (try dsimp only at _hSw); go_simp)) (by assumption) ?_
    simp only [Act.put, List.setIfInBounds_toArray, List.set_cons_zero, List.set_cons_succ]
    refine skipV 36 (some 47) rfl rfl (by kernel_rfl) (by kernel_rfl) (by kernel_rfl) (fun _ _ _ h => h) (by rfl) (by assumption) ?_
    simp only [Act.put, List.setIfInBounds_toArray, List.set_cons_zero, List.set_cons_succ]
    refine skipV 37 (some 48) rfl rfl (by kernel_rfl) (by kernel_rfl) (by kernel_rfl) (fun _ _ _ h => h) (by rfl) (by assumption) ?_
    simp only [Act.put, List.setIfInBounds_toArray, List.set_cons_zero, List.set_cons_succ]
    refine takeV 38 (some 49) ((.bool true)) rfl rfl (by kernel_rfl) (by kernel_rfl) (by kernel_rfl) (fun _ _ _ h => h) (by rfl) (by (intro _w _hSw; (try dsimp only at _hSw); go_simp)) (by assumption) ?_
    simp only [Act.put, List.setIfInBounds_toArray, List.set_cons_zero, List.set_cons_succ]
    have c0 := HDZ.out.c0
    have c1 := HDZ.out.c1
    have c2 := HDZ.out.c2
    have c3 := HDZ.out.c3
    have c4 := HDZ.out.c4
    have c5 := HDZ.out.c5
    have c6 := HDZ.out.c6
    have c7 := HDZ.out.c7
    have c8 := HDZ.out.c8
    have f0 := HDZ.out.fz 0
    have f1 := HDZ.out.fz 1
    have f2 := HDZ.out.fz 2
    have f3 := HDZ.out.fz 3
    have f4 := HDZ.out.fz 4
    have f5 := HDZ.out.fz 5
    have f6 := HDZ.out.fz 6
    have f7 := HDZ.out.fz 7
    have f8 := HDZ.out.fz 8
    refine callV 39 rfl (by kernel_rfl) (by rfl) (fun K hK => ?_)
    go_simp
    refine hK.out _ _ (MS.next hHeld (below_set9 (B := w.heap.size + 1) (Nat.le_refl _) _ _ _ _ _ _ _ _ _) (Nat.lt_succ_self _) (by omega)) (fun hHeld2 => ?_)
    clear hK K hHeld c0 f0 c1 f1 c2 f2 c3 f3 c4 f4 c5 f5 c6 f6 c7 f7 c8 f8
    try simp only [Act.put, List.setIfInBounds_toArray, List.set_cons_zero, List.set_cons_succ]
    refine takeV 40 (some 5) ((.bool true)) rfl rfl (by kernel_rfl) (by kernel_rfl) (by kernel_rfl) (fun _ _ _ h => h) (by rfl) (by (intro _w _hSw; (try dsimp only at _hSw); go_simp)) (by assumption) ?_
    simp only [Act.put, List.setIfInBounds_toArray, List.set_cons_zero, List.set_cons_succ]
    refine wpAnyH_done (by kernel_rfl) ?_ _
    have HDN := Lib.hid (HDZ.out.set9 ⟨xe.n, xa.n, xv.k, xv.m, xv.s, x3.n, true, x5.n, x6.n⟩)
    have HBN := Lib.hid (HBD.out.trans (below_set9 (W := wd) (b := w.heap.size + 1) (Nat.le_succ _) (.int .i64 xe.n) (.int .i64 xa.n) (.int .i64 xv.k) (.int .i64 xv.m) (.string xv.s) (.int .i64 x3.n) (.bool true) (.int .i64 x5.n) (.int .i64 x6.n)))
    have c0 := HDN.out.c0
    have c1 := HDN.out.c1
    have c2 := HDN.out.c2
    have c3 := HDN.out.c3
    have c4 := HDN.out.c4
    have c5 := HDN.out.c5
    have c6 := HDN.out.c6
    have c7 := HDN.out.c7
    have c8 := HDN.out.c8
    simp only at c0 c1 c2 c3 c4 c5 c6 c7 c8
    go_wp2
    rw [HD0.out, HA0.out]
    refine bodyPost_ret (v := .tuple #[dV ⟨xe.n, xa.n, xv.k, xv.m, xv.s, x3.n, true, x5.n, x6.n⟩, .bool true]) ?_ rfl ⟨rfl, HBN.out⟩
    rw [results_cell_tmp rfl]
    unfold dV
    go_simp
  · have q0 : (x4.n == 0) = false := beq_eq_false_iff_ne.2 z0
    by_cases z1 : x4.n = 1
    · have q1 : (x4.n == 1) = true := by rw [z1]; rfl
      have HA0 : Hid (addOk l = true) := by show _ = _; rw [HAO.out, decide_eq_true (.inr z1)]
      have HD0 : Hid (datPl pe pa pv l = ⟨xe.n, xa.n, xv.k, xv.m, xv.s, x3.n, false, x5.n, x6.n⟩) := by show _ = _; rw [HDP.out, decide_eq_false z0]
      clear z0 z1
      refine wp_region_held_drew (S := MS w.heap.size b o pe pa pv xe xa xv x3 x5 x6) (by kernel_rfl) (by rw [hwd]; exact HMS.out) (fun hHeld => ?_)
      rw [hwd] at hHeld ⊢
      clear hwd
      refine takeV 0 (some 11) ((.slice (some ⟨b, o, none⟩) 7 c)) rfl rfl (by kernel_rfl) (by kernel_rfl) (by kernel_rfl) (fun _ _ _ h => h) (by rfl) (by (intro _w _hSw; (try dsimp only at _hSw); go_simp)) (by assumption) ?_
      simp only [Act.put, List.setIfInBounds_toArray, List.set_cons_zero, List.set_cons_succ]
      refine takeV 1 (some 12) ((.pointer (some ⟨w.heap.size, 0, none⟩))) rfl rfl (by kernel_rfl) (by kernel_rfl) (by kernel_rfl) (fun _ _ _ h => h) (by rfl) (by (intro _w _hSw; (try dsimp only at _hSw); go_simp)) (by assumption) ?_
      simp only [Act.put, List.setIfInBounds_toArray, List.set_cons_zero, List.set_cons_succ]
      refine takeV 2 (some 13) ((.int .i64 (pe : Int))) rfl rfl (by kernel_rfl) (by kernel_rfl) (by kernel_rfl) (fun _ _ _ h => h) (by rfl) (by (intro _w hSw; have q := hSw.1.1; clear hSw; go_simp)) (by assumption) ?_
      simp only [Act.put, List.setIfInBounds_toArray, List.set_cons_zero, List.set_cons_succ]
      refine takeV 3 (some 14) ((.pointer (some ⟨b, o + pe * 5, none⟩))) rfl rfl (by kernel_rfl) (by kernel_rfl) (by kernel_rfl) (fun _ _ _ h => h) (by rfl) (by (intro _w _hSw; (try dsimp only at _hSw); go_simp)) (by assumption) ?_
      simp only [Act.put, List.setIfInBounds_toArray, List.set_cons_zero, List.set_cons_succ]
      refine takeV 4 (some 15) ((.pointer (some ⟨b, o + pe * 5 + 1, none⟩))) rfl rfl (by kernel_rfl) (by kernel_rfl) (by kernel_rfl) (fun _ _ _ h => h) (by rfl) (by (intro _w _hSw; (try dsimp only at _hSw); go_simp)) (by assumption) ?_
      simp only [Act.put, List.setIfInBounds_toArray, List.set_cons_zero, List.set_cons_succ]
      refine takeV 5 (some 16) ((.int .i64 xe.n)) rfl rfl (by kernel_rfl) (by kernel_rfl) (by kernel_rfl) (fun _ _ _ h => h) (by rfl) (by (intro _w hSw; have q := hSw.2.1; clear hSw; go_simp)) (by assumption) ?_
      simp only [Act.put, List.setIfInBounds_toArray, List.set_cons_zero, List.set_cons_succ]
      refine takeV 6 (some 17) ((.slice (some ⟨b, o, none⟩) 7 c)) rfl rfl (by kernel_rfl) (by kernel_rfl) (by kernel_rfl) (fun _ _ _ h => h) (by rfl) (by (intro _w _hSw; (try dsimp only at _hSw); go_simp)) (by assumption) ?_
      simp only [Act.put, List.setIfInBounds_toArray, List.set_cons_zero, List.set_cons_succ]
      refine takeV 7 (some 18) ((.pointer (some ⟨w.heap.size, 1, none⟩))) rfl rfl (by kernel_rfl) (by kernel_rfl) (by kernel_rfl) (fun _ _ _ h => h) (by rfl) (by (intro _w _hSw; (try dsimp only at _hSw); go_simp)) (by assumption) ?_
      simp only [Act.put, List.setIfInBounds_toArray, List.set_cons_zero, List.set_cons_succ]
      refine takeV 8 (some 19) ((.int .i64 (pa : Int))) rfl rfl (by kernel_rfl) (by kernel_rfl) (by kernel_rfl) (fun _ _ _ h => h) (by rfl) (by (intro _w hSw; have q := hSw.1.2.1; clear hSw; go_simp)) (by assumption) ?_
      simp only [Act.put, List.setIfInBounds_toArray, List.set_cons_zero, List.set_cons_succ]
      refine takeV 9 (some 20) ((.pointer (some ⟨b, o + pa * 5, none⟩))) rfl rfl (by kernel_rfl) (by kernel_rfl) (by kernel_rfl) (fun _ _ _ h => h) (by rfl) (by (intro _w _hSw; (try dsimp only at _hSw); go_simp)) (by assumption) ?_
      simp only [Act.put, List.setIfInBounds_toArray, List.set_cons_zero, List.set_cons_succ]
      refine takeV 10 (some 21) ((.pointer (some ⟨b, o + pa * 5 + 1, none⟩))) rfl rfl (by kernel_rfl) (by kernel_rfl) (by kernel_rfl) (fun _ _ _ h => h) (by rfl) (by (intro _w _hSw; (try dsimp only at _hSw); go_simp)) (by assumption) ?_
      simp only [Act.put, List.setIfInBounds_toArray, List.set_cons_zero, List.set_cons_succ]
      refine takeV 11 (some 22) ((.int .i64 xa.n)) rfl rfl (by kernel_rfl) (by kernel_rfl) (by kernel_rfl) (fun _ _ _ h => h) (by rfl) (by (intro _w hSw; have q := hSw.2.2.1; clear hSw; go_simp)) (by assumption) ?_
      simp only [Act.put, List.setIfInBounds_toArray, List.set_cons_zero, List.set_cons_succ]
      refine takeV 12 (some 23) ((.slice (some ⟨b, o, none⟩) 7 c)) rfl rfl (by kernel_rfl) (by kernel_rfl) (by kernel_rfl) (fun _ _ _ h => h) (by rfl) (by (intro _w _hSw; (try dsimp only at _hSw); go_simp)) (by assumption) ?_
      simp only [Act.put, List.setIfInBounds_toArray, List.set_cons_zero, List.set_cons_succ]
      refine takeV 13 (some 24) ((.pointer (some ⟨w.heap.size, 2, none⟩))) rfl rfl (by kernel_rfl) (by kernel_rfl) (by kernel_rfl) (fun _ _ _ h => h) (by rfl) (by (intro _w _hSw; (try dsimp only at _hSw); go_simp)) (by assumption) ?_
      simp only [Act.put, List.setIfInBounds_toArray, List.set_cons_zero, List.set_cons_succ]
      refine takeV 14 (some 25) ((.int .i64 (pv : Int))) rfl rfl (by kernel_rfl) (by kernel_rfl) (by kernel_rfl) (fun _ _ _ h => h) (by rfl) (by (intro _w hSw; have q := hSw.1.2.2; clear hSw; go_simp)) (by assumption) ?_
      simp only [Act.put, List.setIfInBounds_toArray, List.set_cons_zero, List.set_cons_succ]
      refine takeV 15 (some 26) ((.pointer (some ⟨b, o + pv * 5, none⟩))) rfl rfl (by kernel_rfl) (by kernel_rfl) (by kernel_rfl) (fun _ _ _ h => h) (by rfl) (by (intro _w _hSw; (try dsimp only at _hSw); go_simp)) (by assumption) ?_
      simp only [Act.put, List.setIfInBounds_toArray, List.set_cons_zero, List.set_cons_succ]
      refine takeV 16 (some 27) ((.pointer (some ⟨b, o + pv * 5 + 2, none⟩))) rfl rfl (by kernel_rfl) (by kernel_rfl) (by kernel_rfl) (fun _ _ _ h => h) (by rfl) (by (intro _w _hSw; (try dsimp only at _hSw); go_simp)) (by assumption) ?_
      simp only [Act.put, List.setIfInBounds_toArray, List.set_cons_zero, List.set_cons_succ]
      refine takeV 17 (some 28) ((.agg #[.int .i64 xv.k, .int .i64 xv.m, .string xv.s])) rfl rfl (by kernel_rfl) (by kernel_rfl) (by kernel_rfl) (fun _ _ _ h => h) (by rfl) (by (intro _w hSw; have qa := hSw.2.2.2.1.1; have qb := hSw.2.2.2.1.2.1; have qc := hSw.2.2.2.1.2.2; clear hSw; go_simp)) (by assumption) ?_
      simp only [Act.put, List.setIfInBounds_toArray, List.set_cons_zero, List.set_cons_succ]
      refine takeV 18 (some 29) ((.slice (some ⟨b, o, none⟩) 7 c)) rfl rfl (by kernel_rfl) (by kernel_rfl) (by kernel_rfl) (fun _ _ _ h => h) (by rfl) (by (intro _w _hSw; (try dsimp only at _hSw); go_simp)) (by assumption) ?_
      simp only [Act.put, List.setIfInBounds_toArray, List.set_cons_zero, List.set_cons_succ]
      refine takeV 19 (some 30) ((.pointer (some ⟨b, o + 15, none⟩))) rfl rfl (by kernel_rfl) (by kernel_rfl) (by kernel_rfl) (fun _ _ _ h => h) (by rfl) (by (intro _w _hSw; (try dsimp only at _hSw); go_simp)) (by assumption) ?_
      simp only [Act.put, List.setIfInBounds_toArray, List.set_cons_zero, List.set_cons_succ]
      refine takeV 20 (some 31) ((.pointer (some ⟨b, o + 15 + 1, none⟩))) rfl rfl (by kernel_rfl) (by kernel_rfl) (by kernel_rfl) (fun _ _ _ h => h) (by rfl) (by (intro _w _hSw; (try dsimp only at _hSw); go_simp)) (by assumption) ?_
      simp only [Act.put, List.setIfInBounds_toArray, List.set_cons_zero, List.set_cons_succ]
      refine takeV 21 (some 32) ((.int .i64 x3.n)) rfl rfl (by kernel_rfl) (by kernel_rfl) (by kernel_rfl) (fun _ _ _ h => h) (by rfl) (by (intro _w hSw; have q := hSw.2.2.2.2.1; clear hSw; go_simp)) (by assumption) ?_
      simp only [Act.put, List.setIfInBounds_toArray, List.set_cons_zero, List.set_cons_succ]
      refine takeV 22 (some 33) ((.int .i64 x4.n)) rfl rfl (by kernel_rfl) (by kernel_rfl) (by kernel_rfl) (fun _ _ _ h => h) (by rfl) (by (intro _w _hSw; (try dsimp only at _hSw); go_simp)) (by assumption) ?_
      simp only [Act.put, List.setIfInBounds_toArray, List.set_cons_zero, List.set_cons_succ]
      refine takeV 23 (some 34) ((.bool false)) rfl rfl (by kernel_rfl) (by kernel_rfl) (by kernel_rfl) (fun _ _ _ h => h) (by rfl) (by (intro _w _hSw; (try dsimp only at _hSw); go_simp)) (by assumption) ?_
      simp only [Act.put, List.setIfInBounds_toArray, List.set_cons_zero, List.set_cons_succ]
      refine takeV 24 (some 35) ((.slice (some ⟨b, o, none⟩) 7 c)) rfl rfl (by kernel_rfl) (by kernel_rfl) (by kernel_rfl) (fun _ _ _ h => h) (by rfl) (by (intro _w _hSw; (try dsimp only at _hSw); go_simp)) (by assumption) ?_
      simp only [Act.put, List.setIfInBounds_toArray, List.set_cons_zero, List.set_cons_succ]
      refine takeV 25 (some 36) ((.pointer (some ⟨b, o + 25, none⟩))) rfl rfl (by kernel_rfl) (by kernel_rfl) (by kernel_rfl) (fun _ _ _ h => h) (by rfl) (by (intro _w _hSw; (try dsimp only at _hSw); go_simp)) (by assumption) ?_
      simp only [Act.put, List.setIfInBounds_toArray, List.set_cons_zero, List.set_cons_succ]
      refine takeV 26 (some 37) ((.pointer (some ⟨b, o + 25 + 1, none⟩))) rfl rfl (by kernel_rfl) (by kernel_rfl) (by kernel_rfl) (fun _ _ _ h => h) (by rfl) (by (intro _w _hSw; (try dsimp only at _hSw); go_simp)) (by assumption) ?_
      simp only [Act.put, List.setIfInBounds_toArray, List.set_cons_zero, List.set_cons_succ]
      refine takeV 27 (some 38) ((.int .i64 x5.n)) rfl rfl (by kernel_rfl) (by kernel_rfl) (by kernel_rfl) (fun _ _ _ h => h) (by rfl) (by (intro _w hSw; have q := hSw.2.2.2.2.2.1; clear hSw; go_simp)) (by assumption) ?_
      simp only [Act.put, List.setIfInBounds_toArray, List.set_cons_zero, List.set_cons_succ]
      refine takeV 28 (some 39) ((.slice (some ⟨b, o, none⟩) 7 c)) rfl rfl (by kernel_rfl) (by kernel_rfl) (by kernel_rfl) (fun _ _ _ h => h) (by rfl) (by (intro _w _hSw; (try dsimp only at _hSw); go_simp)) (by assumption) ?_
      simp only [Act.put, List.setIfInBounds_toArray, List.set_cons_zero, List.set_cons_succ]
      refine takeV 29 (some 40) ((.pointer (some ⟨b, o + 30, none⟩))) rfl rfl (by kernel_rfl) (by kernel_rfl) (by kernel_rfl) (fun _ _ _ h => h) (by rfl) (by (intro _w _hSw; (try dsimp only at _hSw); go_simp)) (by assumption) ?_
      simp only [Act.put, List.setIfInBounds_toArray, List.set_cons_zero, List.set_cons_succ]
      refine takeV 30 (some 41) ((.pointer (some ⟨b, o + 30 + 1, none⟩))) rfl rfl (by kernel_rfl) (by kernel_rfl) (by kernel_rfl) (fun _ _ _ h => h) (by rfl) (by (intro _w _hSw; (try dsimp only at _hSw); go_simp)) (by assumption) ?_
      simp only [Act.put, List.setIfInBounds_toArray, List.set_cons_zero, List.set_cons_succ]
      refine takeV 31 (some 42) ((.int .i64 x6.n)) rfl rfl (by kernel_rfl) (by kernel_rfl) (by kernel_rfl) (fun _ _ _ h => h) (by rfl) (by (intro _w hSw; have q := hSw.2.2.2.2.2.2; clear hSw; go_simp)) (by assumption) ?_
      simp only [Act.put, List.setIfInBounds_toArray, List.set_cons_zero, List.set_cons_succ]
      refine takeV 32 (some 43) ((.agg #[.int .i64 xe.n, .int .i64 xa.n, .int .i64 xv.k, .int .i64 xv.m, .string xv.s, .int .i64 x3.n, .bool false, .int .i64 x5.n, .int .i64 x6.n])) rfl rfl (by kernel_rfl) (by kernel_rfl) (by kernel_rfl) (fun _ _ _ h => h) (by rfl) (by (intro _w _hSw; (try dsimp only at _hSw); go_simp)) (by assumption) ?_
      simp only [Act.put, List.setIfInBounds_toArray, List.set_cons_zero, List.set_cons_succ]
      refine takeV 33 (some 44) ((.int .i64 x4.n)) rfl rfl (by kernel_rfl) (by kernel_rfl) (by kernel_rfl) (fun _ _ _ h => h) (by rfl) (by (intro _w _hSw; (try dsimp only at _hSw); go_simp)) (by assumption) ?_
      simp only [Act.put, List.setIfInBounds_toArray, List.set_cons_zero, List.set_cons_succ]
      refine takeV 34 (some 45) ((.bool false)) rfl rfl (by kernel_rfl) (by kernel_rfl) (by kernel_rfl) (fun _ _ _ h => h) (by rfl) (by (intro _w _hSw; (try dsimp only at _hSw); go_simp)) (by assumption) ?_
      simp only [Act.put, List.setIfInBounds_toArray, List.set_cons_zero, List.set_cons_succ]
      refine takeV 35 (some 46) ((.bool false)) rfl rfl (by kernel_rfl) (by kernel_rfl) (by kernel_rfl) (fun _ _ _ h => h) (by rfl) (by (intro _w _hSw; (try dsimp only at _hSw); go_simp)) (by assumption) ?_
      simp only [Act.put, List.setIfInBounds_toArray, List.set_cons_zero, List.set_cons_succ]
      refine takeV 36 (some 47) ((.int .i64 x4.n)) rfl rfl (by kernel_rfl) (by kernel_rfl) (by kernel_rfl) (fun _ _ _ h => h) (by rfl) (by (intro _w _hSw; (try dsimp only at _hSw); go_simp)) (by assumption) ?_
      simp only [Act.put, List.setIfInBounds_toArray, List.set_cons_zero, List.set_cons_succ]
      refine takeV 37 (some 48) ((.bool true)) rfl rfl (by kernel_rfl) (by kernel_rfl) (by kernel_rfl) (fun _ _ _ h => h) (by rfl) (by (intro _w _hSw; (try dsimp only at _hSw); go_simp)) (by assumption) ?_
      simp only [Act.put, List.setIfInBounds_toArray, List.set_cons_zero, List.set_cons_succ]
      refine takeV 38 (some 49) ((.bool true)) rfl rfl (by kernel_rfl) (by kernel_rfl) (by kernel_rfl) (fun _ _ _ h => h) (by rfl) (by (intro _w _hSw; (try dsimp only at _hSw); go_simp)) (by assumption) ?_
      simp only [Act.put, List.setIfInBounds_toArray, List.set_cons_zero, List.set_cons_succ]
      have c0 := HDZ.out.c0
      have c1 := HDZ.out.c1
      have c2 := HDZ.out.c2
      have c3 := HDZ.out.c3
      have c4 := HDZ.out.c4
      have c5 := HDZ.out.c5
      have c6 := HDZ.out.c6
      have c7 := HDZ.out.c7
      have c8 := HDZ.out.c8
      have f0 := HDZ.out.fz 0
      have f1 := HDZ.out.fz 1
      have f2 := HDZ.out.fz 2
      have f3 := HDZ.out.fz 3
      have f4 := HDZ.out.fz 4
      have f5 := HDZ.out.fz 5
      have f6 := HDZ.out.fz 6
      have f7 := HDZ.out.fz 7
      have f8 := HDZ.out.fz 8
      refine callV 39 rfl (by kernel_rfl) (by rfl) (fun K hK => ?_)
      go_simp
      refine hK.out _ _ (MS.next hHeld (below_set9 (B := w.heap.size + 1) (Nat.le_refl _) _ _ _ _ _ _ _ _ _) (Nat.lt_succ_self _) (by omega)) (fun hHeld2 => ?_)
      clear hK K hHeld c0 f0 c1 f1 c2 f2 c3 f3 c4 f4 c5 f5 c6 f6 c7 f7 c8 f8
      try simp only [Act.put, List.setIfInBounds_toArray, List.set_cons_zero, List.set_cons_succ]
      refine takeV 40 (some 5) ((.bool true)) rfl rfl (by kernel_rfl) (by kernel_rfl) (by kernel_rfl) (fun _ _ _ h => h) (by rfl) (by (intro _w _hSw; (try dsimp only at _hSw); go_simp)) (by assumption) ?_
      simp only [Act.put, List.setIfInBounds_toArray, List.set_cons_zero, List.set_cons_succ]
      refine wpAnyH_done (by kernel_rfl) ?_ _
      have HDN := Lib.hid (HDZ.out.set9 ⟨xe.n, xa.n, xv.k, xv.m, xv.s, x3.n, false, x5.n, x6.n⟩)
      have HBN := Lib.hid (HBD.out.trans (below_set9 (W := wd) (b := w.heap.size + 1) (Nat.le_succ _) (.int .i64 xe.n) (.int .i64 xa.n) (.int .i64 xv.k) (.int .i64 xv.m) (.string xv.s) (.int .i64 x3.n) (.bool false) (.int .i64 x5.n) (.int .i64 x6.n)))
      have c0 := HDN.out.c0
      have c1 := HDN.out.c1
      have c2 := HDN.out.c2
      have c3 := HDN.out.c3
      have c4 := HDN.out.c4
      have c5 := HDN.out.c5
      have c6 := HDN.out.c6
      have c7 := HDN.out.c7
      have c8 := HDN.out.c8
      simp only at c0 c1 c2 c3 c4 c5 c6 c7 c8
      go_wp2
      rw [HD0.out, HA0.out]
      refine bodyPost_ret (v := .tuple #[dV ⟨xe.n, xa.n, xv.k, xv.m, xv.s, x3.n, false, x5.n, x6.n⟩, .bool true]) ?_ rfl ⟨rfl, HBN.out⟩
      rw [results_cell_tmp rfl]
      unfold dV
      go_simp
    · have q1 : (x4.n == 1) = false := beq_eq_false_iff_ne.2 z1
      have HA0 : Hid (addOk l = false) := by show _ = _; rw [HAO.out]; exact decide_eq_false (fun h => h.elim z0 z1)
      have HD0 : Hid (datPl pe pa pv l = ⟨xe.n, xa.n, xv.k, xv.m, xv.s, x3.n, false, x5.n, x6.n⟩) := by show _ = _; rw [HDP.out, decide_eq_false z0]
      clear z0 z1
      refine wp_region_held_drew (S := MS w.heap.size b o pe pa pv xe xa xv x3 x5 x6) (by kernel_rfl) (by rw [hwd]; exact HMS.out) (fun hHeld => ?_)
      rw [hwd] at hHeld ⊢
      clear hwd
      refine takeV 0 (some 11) ((.slice (some ⟨b, o, none⟩) 7 c)) rfl rfl (by kernel_rfl) (by kernel_rfl) (by kernel_rfl) (fun _ _ _ h => h) (by rfl) (by (intro _w _hSw; (try dsimp only at _hSw); go_simp)) (by assumption) ?_
      simp only [Act.put, List.setIfInBounds_toArray, List.set_cons_zero, List.set_cons_succ]
      refine takeV 1 (some 12) ((.pointer (some ⟨w.heap.size, 0, none⟩))) rfl rfl (by kernel_rfl) (by kernel_rfl) (by kernel_rfl) (fun _ _ _ h => h) (by rfl) (by (intro _w _hSw; (try dsimp only at _hSw); go_simp)) (by assumption) ?_
      simp only [Act.put, List.setIfInBounds_toArray, List.set_cons_zero, List.set_cons_succ]
      refine takeV 2 (some 13) ((.int .i64 (pe : Int))) rfl rfl (by kernel_rfl) (by kernel_rfl) (by kernel_rfl) (fun _ _ _ h => h) (by rfl) (by (intro _w hSw; have q := hSw.1.1; clear hSw; go_simp)) (by assumption) ?_
      simp only [Act.put, List.setIfInBounds_toArray, List.set_cons_zero, List.set_cons_succ]
      refine takeV 3 (some 14) ((.pointer (some ⟨b, o + pe * 5, none⟩))) rfl rfl (by kernel_rfl) (by kernel_rfl) (by kernel_rfl) (fun _ _ _ h => h) (by rfl) (by (intro _w _hSw; (try dsimp only at _hSw); go_simp)) (by assumption) ?_
      simp only [Act.put, List.setIfInBounds_toArray, List.set_cons_zero, List.set_cons_succ]
      refine takeV 4 (some 15) ((.pointer (some ⟨b, o + pe * 5 + 1, none⟩))) rfl rfl (by kernel_rfl) (by kernel_rfl) (by kernel_rfl) (fun _ _ _ h => h) (by rfl) (by (intro _w _hSw; (try dsimp only at _hSw); go_simp)) (by assumption) ?_
      simp only [Act.put, List.setIfInBounds_toArray, List.set_cons_zero, List.set_cons_succ]
      refine takeV 5 (some 16) ((.int .i64 xe.n)) rfl rfl (by kernel_rfl) (by kernel_rfl) (by kernel_rfl) (fun _ _ _ h => h) (by rfl) (by (intro _w hSw; have q := hSw.2.1; clear hSw; go_simp)) (by assumption) ?_
      simp only [Act.put, List.setIfInBounds_toArray, List.set_cons_zero, List.set_cons_succ]
      refine takeV 6 (some 17) ((.slice (some ⟨b, o, none⟩) 7 c)) rfl rfl (by kernel_rfl) (by kernel_rfl) (by kernel_rfl) (fun _ _ _ h => h) (by rfl) (by (intro _w _hSw; (try dsimp only at _hSw); go_simp)) (by assumption) ?_
      simp only [Act.put, List.setIfInBounds_toArray, List.set_cons_zero, List.set_cons_succ]
      refine takeV 7 (some 18) ((.pointer (some ⟨w.heap.size, 1, none⟩))) rfl rfl (by kernel_rfl) (by kernel_rfl) (by kernel_rfl) (fun _ _ _ h => h) (by rfl) (by (intro _w _hSw; (try dsimp only at _hSw); go_simp)) (by assumption) ?_
      simp only [Act.put, List.setIfInBounds_toArray, List.set_cons_zero, List.set_cons_succ]
      refine takeV 8 (some 19) ((.int .i64 (pa : Int))) rfl rfl (by kernel_rfl) (by kernel_rfl) (by kernel_rfl) (fun _ _ _ h => h) (by rfl) (by (intro _w hSw; have q := hSw.1.2.1; clear hSw; go_simp)) (by assumption) ?_
      simp only [Act.put, List.setIfInBounds_toArray, List.set_cons_zero, List.set_cons_succ]
      refine takeV 9 (some 20) ((.pointer (some ⟨b, o + pa * 5, none⟩))) rfl rfl (by kernel_rfl) (by kernel_rfl) (by kernel_rfl) (fun _ _ _ h => h) (by rfl) (by (intro _w _hSw; (try dsimp only at _hSw); go_simp)) (by assumption) ?_
      simp only [Act.put, List.setIfInBounds_toArray, List.set_cons_zero, List.set_cons_succ]
      refine takeV 10 (some 21) ((.pointer (some ⟨b, o + pa * 5 + 1, none⟩))) rfl rfl (by kernel_rfl) (by kernel_rfl) (by kernel_rfl) (fun _ _ _ h => h) (by rfl) (by (intro _w _hSw; (try dsimp only at _hSw); go_simp)) (by assumption) ?_
      simp only [Act.put, List.setIfInBounds_toArray, List.set_cons_zero, List.set_cons_succ]
      refine takeV 11 (some 22) ((.int .i64 xa.n)) rfl rfl (by kernel_rfl) (by kernel_rfl) (by kernel_rfl) (fun _ _ _ h => h) (by rfl) (by (intro _w hSw; have q := hSw.2.2.1; clear hSw; go_simp)) (by assumption) ?_
      simp only [Act.put, List.setIfInBounds_toArray, List.set_cons_zero, List.set_cons_succ]
      refine takeV 12 (some 23) ((.slice (some ⟨b, o, none⟩) 7 c)) rfl rfl (by kernel_rfl) (by kernel_rfl) (by kernel_rfl) (fun _ _ _ h => h) (by rfl) (by (intro _w _hSw; (try dsimp only at _hSw); go_simp)) (by assumption) ?_
      simp only [Act.put, List.setIfInBounds_toArray, List.set_cons_zero, List.set_cons_succ]
      refine takeV 13 (some 24) ((.pointer (some ⟨w.heap.size, 2, none⟩))) rfl rfl (by kernel_rfl) (by kernel_rfl) (by kernel_rfl) (fun _ _ _ h => h) (by rfl) (by (intro _w _hSw; (try dsimp only at _hSw); go_simp)) (by assumption) ?_
      simp only [Act.put, List.setIfInBounds_toArray, List.set_cons_zero, List.set_cons_succ]
      refine takeV 14 (some 25) ((.int .i64 (pv : Int))) rfl rfl (by kernel_rfl) (by kernel_rfl) (by kernel_rfl) (fun _ _ _ h => h) (by rfl) (by (intro _w hSw; have q := hSw.1.2.2; clear hSw; go_simp)) (by assumption) ?_
      simp only [Act.put, List.setIfInBounds_toArray, List.set_cons_zero, List.set_cons_succ]
      refine takeV 15 (some 26) ((.pointer (some ⟨b, o + pv * 5, none⟩))) rfl rfl (by kernel_rfl) (by kernel_rfl) (by kernel_rfl) (fun _ _ _ h => h) (by rfl) (by (intro _w _hSw; (try dsimp only at _hSw); go_simp)) (by assumption) ?_
      simp only [Act.put, List.setIfInBounds_toArray, List.set_cons_zero, List.set_cons_succ]
      refine takeV 16 (some 27) ((.pointer (some ⟨b, o + pv * 5 + 2, none⟩))) rfl rfl (by kernel_rfl) (by kernel_rfl) (by kernel_rfl) (fun _ _ _ h => h) (by rfl) (by (intro _w _hSw; (try dsimp only at _hSw); go_simp)) (by assumption) ?_
      simp only [Act.put, List.setIfInBounds_toArray, List.set_cons_zero, List.set_cons_succ]
      refine takeV 17 (some 28) ((.agg #[.int .i64 xv.k, .int .i64 xv.m, .string xv.s])) rfl rfl (by kernel_rfl) (by kernel_rfl) (by kernel_rfl) (fun _ _ _ h => h) (by rfl) (by (intro _w hSw; have qa := hSw.2.2.2.1.1; have qb := hSw.2.2.2.1.2.1; have qc := hSw.2.2.2.1.2.2; clear hSw; go_simp)) (by assumption) ?_
      simp only [Act.put, List.setIfInBounds_toArray, List.set_cons_zero, List.set_cons_succ]
      refine takeV 18 (some 29) ((.slice (some ⟨b, o, none⟩) 7 c)) rfl rfl (by kernel_rfl) (by kernel_rfl) (by kernel_rfl) (fun _ _ _ h => h) (by rfl) (by (intro _w _hSw; (try dsimp only at _hSw); go_simp)) (by assumption) ?_
      simp only [Act.put, List.setIfInBounds_toArray, List.set_cons_zero, List.set_cons_succ]
      refine takeV 19 (some 30) ((.pointer (some ⟨b, o + 15, none⟩))) rfl rfl (by kernel_rfl) (by kernel_rfl) (by kernel_rfl) (fun _ _ _ h => h) (by rfl) (by (intro _w _hSw; (try dsimp only at _hSw); go_simp)) (by assumption) ?_
      simp only [Act.put, List.setIfInBounds_toArray, List.set_cons_zero, List.set_cons_succ]
      refine takeV 20 (some 31) ((.pointer (some ⟨b, o + 15 + 1, none⟩))) rfl rfl (by kernel_rfl) (by kernel_rfl) (by kernel_rfl) (fun _ _ _ h => h) (by rfl) (by (intro _w _hSw; (try dsimp only at _hSw); go_simp)) (by assumption) ?_
      simp only [Act.put, List.setIfInBounds_toArray, List.set_cons_zero, List.set_cons_succ]
      refine takeV 21 (some 32) ((.int .i64 x3.n)) rfl rfl (by kernel_rfl) (by kernel_rfl) (by kernel_rfl) (fun _ _ _ h => h) (by rfl) (by (intro _w hSw; have q := hSw.2.2.2.2.1; clear hSw; go_simp)) (by assumption) ?_
      simp only [Act.put, List.setIfInBounds_toArray, List.set_cons_zero, List.set_cons_succ]
      refine takeV 22 (some 33) ((.int .i64 x4.n)) rfl rfl (by kernel_rfl) (by kernel_rfl) (by kernel_rfl) (fun _ _ _ h => h) (by rfl) (by (intro _w _hSw; (try dsimp only at _hSw); go_simp)) (by assumption) ?_
      simp only [Act.put, List.setIfInBounds_toArray, List.set_cons_zero, List.set_cons_succ]
      refine takeV 23 (some 34) ((.bool false)) rfl rfl (by kernel_rfl) (by kernel_rfl) (by kernel_rfl) (fun _ _ _ h => h) (by rfl) (by (intro _w _hSw; (try dsimp only at _hSw); go_simp)) (by assumption) ?_
      simp only [Act.put, List.setIfInBounds_toArray, List.set_cons_zero, List.set_cons_succ]
      refine takeV 24 (some 35) ((.slice (some ⟨b, o, none⟩) 7 c)) rfl rfl (by kernel_rfl) (by kernel_rfl) (by kernel_rfl) (fun _ _ _ h => h) (by rfl) (by (intro _w _hSw; (try dsimp only at _hSw); go_simp)) (by assumption) ?_
      simp only [Act.put, List.setIfInBounds_toArray, List.set_cons_zero, List.set_cons_succ]
      refine takeV 25 (some 36) ((.pointer (some ⟨b, o + 25, none⟩))) rfl rfl (by kernel_rfl) (by kernel_rfl) (by kernel_rfl) (fun _ _ _ h => h) (by rfl) (by (intro _w _hSw; (try dsimp only at _hSw); go_simp)) (by assumption) ?_
      simp only [Act.put, List.setIfInBounds_toArray, List.set_cons_zero, List.set_cons_succ]
      refine takeV 26 (some 37) ((.pointer (some ⟨b, o + 25 + 1, none⟩))) rfl rfl (by kernel_rfl) (by kernel_rfl) (by kernel_rfl) (fun _ _ _ h => h) (by rfl) (by (intro _w _hSw; (try dsimp only at _hSw); go_simp)) (by assumption) ?_
      simp only [Act.put, List.setIfInBounds_toArray, List.set_cons_zero, List.set_cons_succ]
      refine takeV 27 (some 38) ((.int .i64 x5.n)) rfl rfl (by kernel_rfl) (by kernel_rfl) (by kernel_rfl) (fun _ _ _ h => h) (by rfl) (by (intro _w hSw; have q := hSw.2.2.2.2.2.1; clear hSw; go_simp)) (by assumption) ?_
      simp only [Act.put, List.setIfInBounds_toArray, List.set_cons_zero, List.set_cons_succ]
      refine takeV 28 (some 39) ((.slice (some ⟨b, o, none⟩) 7 c)) rfl rfl (by kernel_rfl) (by kernel_rfl) (by kernel_rfl) (fun _ _ _ h => h) (by rfl) (by (intro _w _hSw; (try dsimp only at _hSw); go_simp)) (by assumption) ?_
      simp only [Act.put, List.setIfInBounds_toArray, List.set_cons_zero, List.set_cons_succ]
      refine takeV 29 (some 40) ((.pointer (some ⟨b, o + 30, none⟩))) rfl rfl (by kernel_rfl) (by kernel_rfl) (by kernel_rfl) (fun _ _ _ h => h) (by rfl) (by (intro _w _hSw; (try dsimp only at _hSw); go_simp)) (by assumption) ?_
      simp only [Act.put, List.setIfInBounds_toArray, List.set_cons_zero, List.set_cons_succ]
      refine takeV 30 (some 41) ((.pointer (some ⟨b, o + 30 + 1, none⟩))) rfl rfl (by kernel_rfl) (by kernel_rfl) (by kernel_rfl) (fun _ _ _ h => h) (by rfl) (by (intro _w _hSw; (try dsimp only at _hSw); go_simp)) (by assumption) ?_
      simp only [Act.put, List.setIfInBounds_toArray, List.set_cons_zero, List.set_cons_succ]
      refine takeV 31 (some 42) ((.int .i64 x6.n)) rfl rfl (by kernel_rfl) (by kernel_rfl) (by kernel_rfl) (fun _ _ _ h => h) (by rfl) (by (intro _w hSw; have q := hSw.2.2.2.2.2.2; clear hSw; go_simp)) (by assumption) ?_
      simp only [Act.put, List.setIfInBounds_toArray, List.set_cons_zero, List.set_cons_succ]
      refine takeV 32 (some 43) ((.agg #[.int .i64 xe.n, .int .i64 xa.n, .int .i64 xv.k, .int .i64 xv.m, .string xv.s, .int .i64 x3.n, .bool false, .int .i64 x5.n, .int .i64 x6.n])) rfl rfl (by kernel_rfl) (by kernel_rfl) (by kernel_rfl) (fun _ _ _ h => h) (by rfl) (by (intro _w _hSw; (try dsimp only at _hSw); go_simp)) (by assumption) ?_
      simp only [Act.put, List.setIfInBounds_toArray, List.set_cons_zero, List.set_cons_succ]
      refine takeV 33 (some 44) ((.int .i64 x4.n)) rfl rfl (by kernel_rfl) (by kernel_rfl) (by kernel_rfl) (fun _ _ _ h => h) (by rfl) (by (intro _w _hSw; (try dsimp only at _hSw); go_simp)) (by assumption) ?_
      simp only [Act.put, List.setIfInBounds_toArray, List.set_cons_zero, List.set_cons_succ]
      refine takeV 34 (some 45) ((.bool false)) rfl rfl (by kernel_rfl) (by kernel_rfl) (by kernel_rfl) (fun _ _ _ h => h) (by rfl) (by (intro _w _hSw; (try dsimp only at _hSw); go_simp)) (by assumption) ?_
      simp only [Act.put, List.setIfInBounds_toArray, List.set_cons_zero, List.set_cons_succ]
      refine takeV 35 (some 46) ((.bool false)) rfl rfl (by kernel_rfl) (by kernel_rfl) (by kernel_rfl) (fun _ _ _ h => h) (by rfl) (by (intro _w _hSw; (try dsimp only at _hSw); go_simp)) (by assumption) ?_
      simp only [Act.put, List.setIfInBounds_toArray, List.set_cons_zero, List.set_cons_succ]
      refine takeV 36 (some 47) ((.int .i64 x4.n)) rfl rfl (by kernel_rfl) (by kernel_rfl) (by kernel_rfl) (fun _ _ _ h => h) (by rfl) (by (intro _w _hSw; (try dsimp only at _hSw); go_simp)) (by assumption) ?_
      simp only [Act.put, List.setIfInBounds_toArray, List.set_cons_zero, List.set_cons_succ]
      refine takeV 37 (some 48) ((.bool false)) rfl rfl (by kernel_rfl) (by kernel_rfl) (by kernel_rfl) (fun _ _ _ h => h) (by rfl) (by (intro _w _hSw; (try dsimp only at _hSw); go_simp)) (by assumption) ?_
      simp only [Act.put, List.setIfInBounds_toArray, List.set_cons_zero, List.set_cons_succ]
      refine takeV 38 (some 49) ((.bool false)) rfl rfl (by kernel_rfl) (by kernel_rfl) (by kernel_rfl) (fun _ _ _ h => h) (by rfl) (by (intro _w _hSw; (try dsimp only at _hSw); go_simp)) (by assumption) ?_
      simp only [Act.put, List.setIfInBounds_toArray, List.set_cons_zero, List.set_cons_succ]
      have c0 := HDZ.out.c0
      have c1 := HDZ.out.c1
      have c2 := HDZ.out.c2
      have c3 := HDZ.out.c3
      have c4 := HDZ.out.c4
      have c5 := HDZ.out.c5
      have c6 := HDZ.out.c6
      have c7 := HDZ.out.c7
      have c8 := HDZ.out.c8
      have f0 := HDZ.out.fz 0
      have f1 := HDZ.out.fz 1
      have f2 := HDZ.out.fz 2
      have f3 := HDZ.out.fz 3
      have f4 := HDZ.out.fz 4
      have f5 := HDZ.out.fz 5
      have f6 := HDZ.out.fz 6
      have f7 := HDZ.out.fz 7
      have f8 := HDZ.out.fz 8
      refine callV 39 rfl (by kernel_rfl) (by rfl) (fun K hK => ?_)
      go_simp
      refine hK.out _ _ (MS.next hHeld (below_set9 (B := w.heap.size + 1) (Nat.le_refl _) _ _ _ _ _ _ _ _ _) (Nat.lt_succ_self _) (by omega)) (fun hHeld2 => ?_)
      clear hK K hHeld c0 f0 c1 f1 c2 f2 c3 f3 c4 f4 c5 f5 c6 f6 c7 f7 c8 f8
      try simp only [Act.put, List.setIfInBounds_toArray, List.set_cons_zero, List.set_cons_succ]
      refine takeV 40 (some 5) ((.bool false)) rfl rfl (by kernel_rfl) (by kernel_rfl) (by kernel_rfl) (fun _ _ _ h => h) (by rfl) (by (intro _w _hSw; (try dsimp only at _hSw); go_simp)) (by assumption) ?_
      simp only [Act.put, List.setIfInBounds_toArray, List.set_cons_zero, List.set_cons_succ]
      refine wpAnyH_done (by kernel_rfl) ?_ _
      have HDN := Lib.hid (HDZ.out.set9 ⟨xe.n, xa.n, xv.k, xv.m, xv.s, x3.n, false, x5.n, x6.n⟩)
      have HBN := Lib.hid (HBD.out.trans (below_set9 (W := wd) (b := w.heap.size + 1) (Nat.le_succ _) (.int .i64 xe.n) (.int .i64 xa.n) (.int .i64 xv.k) (.int .i64 xv.m) (.string xv.s) (.int .i64 x3.n) (.bool false) (.int .i64 x5.n) (.int .i64 x6.n)))
      have c0 := HDN.out.c0
      have c1 := HDN.out.c1
      have c2 := HDN.out.c2
      have c3 := HDN.out.c3
      have c4 := HDN.out.c4
      have c5 := HDN.out.c5
      have c6 := HDN.out.c6
      have c7 := HDN.out.c7
      have c8 := HDN.out.c8
      simp only at c0 c1 c2 c3 c4 c5 c6 c7 c8
      go_wp2
      rw [HD0.out, HA0.out]
      refine bodyPost_ret (v := .tuple #[dV ⟨xe.n, xa.n, xv.k, xv.m, xv.s, x3.n, false, x5.n, x6.n⟩, .bool false]) ?_ rfl ⟨rfl, HBN.out⟩
      rw [results_cell_tmp rfl]
      unfold dV
      go_simp
end Go.Proofs.Ytkoknogefmfmnaa

/-
  CONTRACT: datom.Sorted.
-/
namespace Go.Proofs.Ytkoknogefmfmnaa
open Go.RowKit Go.Shelf
open Go.Sort (HoldsK)

set_option maxHeartbeats 400000 in
theorem compD_nil (A : Option Addr) (c : Nat) (w : World) :
    Calls Try.prog 33 #[.slice A 0 c] w fun e w' => e = .returned (.slice A 0 c) ∧ w = w' := by
  go_enter Try.func33, Try.ntmps33
  go_wp2
  go_ret
  exact ⟨rfl, rfl⟩
theorem hasD_isO {o : Int} {d : Dat} (h : hasD o d = true) : isO o = true := by
  cases ho : isO o with
  | true => rfl
  | false => rw [isO_no ho] at h; cases h
theorem sortsD_nil {o : Int} {l : List Dat} (h : l.filter (hasD o) = []) : sortsD o l = [] := by
  unfold sortsD
  split
  · rw [h]; rfl
  · rfl
theorem sortsD_is {o : Int} {l : List Dat} (h : l.filter (hasD o) ≠ []) : isO o = true ∧ sortsD o l = compG (ordD o) (riseG (ordD o) (l.filter (hasD o))) := by
  have ho : isO o = true := by
    cases hq : l.filter (hasD o) with
    | nil => exact absurd hq h
    | cons x r =>
      have : x ∈ l.filter (hasD o) := by rw [hq]; simp
      exact hasD_isO (List.mem_filter.1 this).2
  refine ⟨ho, ?_⟩
  unfold sortsD
  rw [if_pos ho, sorted_once (ordD_is ho)]

set_option maxRecDepth 100000 in
set_option maxHeartbeats 4000000 in
theorem sortedD_any (o : Int) (A : Option Addr) (c : Nat) (l : List Dat) (w : World) (hs : SlD w w.heap.size A l) (hl : l.length * 80 ≤ 140737488355328) :
    Calls Try.prog 12 #[.int .i64 o, .slice A l.length c] w fun e w' => ∃ A' c', e = .returned (.slice A' (sortsD o l).length c') ∧ SlD w' w'.heap.size A' (sortsD o l) ∧ Below w.heap.size w w' := by
  obtain ⟨i0, hi, hz0, hz1, hz2⟩ := info_parts infoD
  have hmx : 2000000000000 ≤ maxLen := by decide
  have HS := Lib.hid hs
  clear hs
  go_enter Try.func12, Try.ntmps12
  go_wp2
  obtain ⟨w0, hw0⟩ : ∃ w0, w.alloc (.cells #[.int .i64 o] 3) = w0 := ⟨_, rfl⟩
  have HZ0 : Hid (w0.heap.size = w.heap.size + 1) := by rw [← hw0]; show _ = _; simp
  have HB0 : Hid (Below w.heap.size w w0) := by rw [← hw0]; exact (Below.refl _ _).alloc (Nat.le_refl _) _
  have HOB : Hid (w0.cell? ⟨w.heap.size, 0, none⟩ = some (.int .i64 o)) := by rw [← hw0]; show _ = _; simp
  rw [hw0]
  clear hw0
  go_loopg [5, 7, 10] l.length (fun g x5 _ x10 wr => ∃ j : Nat, OwnD wr (w.heap.size + 1) x5 ((l.take j).filter (hasD o)) ∧ x10 = .int .i64 j ∧ j + g = l.length ∧ Hid (Below (w.heap.size + 1) w0 wr) ∧ w.heap.size + 1 ≤ wr.heap.size)
  case atStart => exact ⟨0, World.ownsRow_nil _ _ _ _, rfl, by omega, Below.refl _ _, by have := HZ0.out; omega⟩
  case round =>
    obtain ⟨j, ho, rfl, hj, HB, hsz⟩ := hrel
    have hfl : ((l.take j).filter (hasD o)).length ≤ j := Nat.le_trans (List.length_filter_le _ _) (List.length_take_le _ _)
    cases gk with
    | succ g =>
      have hji : (j : Int) < (l.length : Int) := by omega
      have hjn : j < l.length := by omega
      have HBW : Hid (Below w.heap.size w wr) := HB0.out.trans (HB.out.mono (Nat.le_succ _))
      obtain ⟨b, q, rfl, hbl, hp⟩ := (HS.out.next HBW.out (Nat.le_refl _)).at_ hjn
      have hft := filter_take (hasD o) hjn
      obtain ⟨x, hpe⟩ : ∃ p, l[j] = p := ⟨_, rfl⟩
      rw [hpe] at hp hft
      obtain ⟨L, hL⟩ : ∃ L, (l.take j).filter (hasD o) = L := ⟨_, rfl⟩
      rw [hL] at ho hfl hft
      obtain ⟨A1, c1, rfl, _, _, _, _, _⟩ := ho.form
      have HO := Lib.hid ho
      have HFT := Lib.hid hft
      have m0 := hp.c0
      have m1 := hp.c1
      have m2 := hp.c2
      have m3 := hp.c3
      have m4 := hp.c4
      have m5 := hp.c5
      have m6 := hp.c6
      have m7 := hp.c7
      have m8 := hp.c8
      have HD : Hid (DatAt (wr.alloc (.cells #[.int .i64 x.e, .int .i64 x.a, .int .i64 x.k, .int .i64 x.m, .string x.s, .int .i64 x.t, .bool x.add, .int .i64 x.fr, .int .i64 x.til] 36)) wr.heap.size x) := datAt_new wr x
      have HBZ : Hid (Below wr.heap.size wr (wr.alloc (.cells #[.int .i64 x.e, .int .i64 x.a, .int .i64 x.k, .int .i64 x.m, .string x.s, .int .i64 x.t, .bool x.add, .int .i64 x.fr, .int .i64 x.til] 36))) := (Below.refl wr.heap.size wr).alloc (Nat.le_refl _) _
      clear ho hft hL hp hpe
      go_upto_region 5 with (fail)
      obtain ⟨wz, hwz⟩ : ∃ wz, (wr.alloc (.cells #[.int .i64 x.e, .int .i64 x.a, .int .i64 x.k, .int .i64 x.m, .string x.s, .int .i64 x.t, .bool x.add, .int .i64 x.fr, .int .i64 x.til] 36)) = wz := ⟨_, rfl⟩
      rw [hwz] at HD HBZ ⊢
      clear hwz m0 m1 m2 m3 m4 m5 m6 m7 m8
      have HOZ : Hid (wz.cell? ⟨w.heap.size, 0, none⟩ = some (.int .i64 o)) := (HBZ.out.cell (p := ⟨w.heap.size, 0, none⟩) (by show w.heap.size < _; omega)).trans ((HB.out.cell (p := ⟨w.heap.size, 0, none⟩) (Nat.lt_succ_self _)).trans HOB.out)
      have HO1 := Lib.hid (HO.out.next HBZ.out)
      have HB1 := Lib.hid (HB.out.trans (HBZ.out.mono hsz))
      have hoz := HOZ.out
      have z0 := HD.out.c0
      have z1 := HD.out.c1
      have z2 := HD.out.c2
      have z3 := HD.out.c3
      have z4 := HD.out.c4
      have z5 := HD.out.c5
      have z6 := HD.out.c6
      have z7 := HD.out.c7
      have z8 := HD.out.c8
      go_wp2_with fail
      refine (has_any o x _).mono ?_
      rintro e w2 ⟨rfl, hb2⟩
      have HD2 := Lib.hid (HD.out.next hb2 HD.out.lt)
      have HO2 := Lib.hid (HO1.out.next hb2)
      have HB2 := Lib.hid (HB1.out.trans (hb2.mono (Nat.le_trans hsz HBZ.out.size)))
      have HS2 : Hid (w.heap.size + 1 ≤ w2.heap.size) := Nat.le_trans hsz (Nat.le_trans HBZ.out.size hb2.size)
      clear hb2 hoz z0 z1 z2 z3 z4 z5 z6 z7 z8
      obtain ⟨hh, hhe⟩ : ∃ hh, hasD o x = hh := ⟨_, rfl⟩
      rw [hhe] at HFT ⊢
      clear hhe
      cases hh with
      | false =>
        have HF : Hid ((l.take (j + 1)).filter (hasD o) = L) := by show _ = _; rw [HFT.out]; simp
        go_wp2
        go_roundg g
        case measure => omega
        case rel => exact ⟨j + 1, by rw [HF.out]; exact HO2.out, by go_num, by omega, HB2.out, HS2.out⟩
      | true =>
        have HF : Hid ((l.take (j + 1)).filter (hasD o) = L ++ [x]) := by show _ = _; rw [HFT.out]; simp
        have z0 := HD2.out.c0
        have z1 := HD2.out.c1
        have z2 := HD2.out.c2
        have z3 := HD2.out.c3
        have z4 := HD2.out.c4
        have z5 := HD2.out.c5
        have z6 := HD2.out.c6
        have z7 := HD2.out.c7
        have z8 := HD2.out.c8
        have HOA : Hid (OwnD (w2.alloc (.cells #[.int .i64 x.e, .int .i64 x.a, .int .i64 x.k, .int .i64 x.m, .string x.s, .int .i64 x.t, .bool x.add, .int .i64 x.fr, .int .i64 x.til] 36)) (w.heap.size + 1) (.slice A1 L.length c1) L) := World.ownsRow.alloc HO2.out _
        have HBA := Lib.hid (HB2.out.alloc HS2.out (.cells #[.int .i64 x.e, .int .i64 x.a, .int .i64 x.k, .int .i64 x.m, .string x.s, .int .i64 x.t, .bool x.add, .int .i64 x.fr, .int .i64 x.til] 36))
        have HLC := Lib.hid (litD w2 x)
        have hbs : (w.heap.size + 1 ≤ (w2.alloc (.cells #[.int .i64 x.e, .int .i64 x.a, .int .i64 x.k, .int .i64 x.m, .string x.s, .int .i64 x.t, .bool x.add, .int .i64 x.fr, .int .i64 x.til] 36)).heap.size) := by simp; have := HS2.out; omega
        have HBS := Lib.hid hbs
        clear hbs
        go_wp2_with (at_builtin; refine wpList_append_any rfl _ _ 28 rfl (w.heap.size + 1) 36 i0 (.agg #[.int .i64 0, .int .i64 0, .int .i64 0, .int .i64 0, .string ⟨#[]⟩, .int .i64 0, .bool false, .int .i64 0, .int .i64 0]) 9 80 Try.underlying28 hi hz0 hz1 hz2 rfl (by decide) _ _ _ rfl HOA.out (some ⟨w2.heap.size, 0, none⟩) 1 1 ([x].flatMap cellsD) rfl rfl (fun h => by cases h) HLC.out (cellsD_all _) (by omega) (by omega) HBS.out ?_; intro v1 w3 hown hgrow; have HV1 : Hid (OwnD w3 (w.heap.size + 1) v1 (L ++ [x])) := ownD_of hown; have HB3 := Lib.hid (HBA.out.trans (below_ownD HOA.out hgrow HBS.out)); have HS3 : Hid (w.heap.size + 1 ≤ w3.heap.size) := (by have := HB3.out.size; have := HZ0.out; show _ ≤ _; omega); clear hown hgrow z0 z1 z2 z3 z4 z5 z6 z7 z8)
        go_roundg g
        case measure => omega
        case rel => exact ⟨j + 1, by rw [HF.out]; exact HV1.out, by go_num, by omega, HB3.out, HS3.out⟩
    | zero =>
      obtain rfl : j = l.length := by omega
      have hji : ¬ ((l.length : Int) < (l.length : Int)) := by omega
      rw [List.take_length] at ho hfl
      have HBW : Hid (Below w.heap.size w wr) := HB0.out.trans (HB.out.mono (Nat.le_succ _))
      by_cases hnil : l.filter (hasD o) = []
      · have HE : Hid (sortsD o l = []) := sortsD_nil hnil
        rw [hnil] at ho
        obtain ⟨A1, c1, rfl, _, _, _, _, _⟩ := ho.form
        have hcon := AnyF.slices_SortFunc_none Try.sortDatom A1 c1 (.func (.func 32) #[] #[.pointer (some ⟨w.heap.size, 0, none⟩)]) wr
        change Calls Try.prog 31 #[.slice A1 0 c1, _] _ _ at hcon
        have HCON := Lib.hid hcon
        clear hcon ho hnil hfl
        simp only [List.length_nil]
        go_wp2_with fail
        refine HCON.out.mono ?_
        rintro e w2 ⟨rfl, rfl⟩
        go_wp2_with fail
        refine (compD_nil A1 c1 _).mono ?_
        rintro e w3 ⟨rfl, rfl⟩
        go_wp2
        go_ret
        exact ⟨A1, c1, by rw [HE.out]; rfl, by rw [HE.out]; exact fun h => absurd rfl h, HBW.out⟩
      · obtain ⟨hio, hse⟩ := sortsD_is hnil
        have h0 : 0 < (l.filter (hasD o)).length := List.length_pos_iff.2 hnil
        obtain ⟨L, hL⟩ : ∃ L, l.filter (hasD o) = L := ⟨_, rfl⟩
        rw [hL] at ho hfl h0 hse
        have HSE := Lib.hid hse
        have HIO := Lib.hid hio
        rcases ho.2 with ⟨_, h1⟩ | ⟨g, cap, cur, rfl, hgB, hgb, hlc, hcm, _⟩
        · omega
        have hr : wr.ownsRow (w.heap.size + 1) 36 9 (.slice (some ⟨g, 0, none⟩) L.length cap) L.length (L.flatMap cellsD) := ho
        have hg1 : g < wr.heap.size := (Array.getElem?_eq_some_iff.1 hgb).1
        have HH := Lib.hid (holds_ownG cellsD_len (by decide) hr)
        have HLC := Lib.hid hlc
        have HG := Lib.hid (show w.heap.size + 1 ≤ g ∧ g < wr.heap.size from ⟨hgB, hg1⟩)
        have HLL := Lib.hid (show 0 < L.length ∧ L.length ≤ 2000000000000 from ⟨h0, by omega⟩)
        have hcb : wr.cell? ⟨w.heap.size, 0, none⟩ = some (.int .i64 o) := (HB.out.cell (p := ⟨w.heap.size, 0, none⟩) (Nat.lt_succ_self _)).trans HOB.out
        have HSC := Lib.hid (sortD_any o hio w.heap.size g cap L wr (w.heap.size + 1) hr hg1 (by omega) (by omega) hcb)
        clear ho hr hlc hcm hgB hg1 hgb h0 hse hio hnil hcb hL hfl
        go_wp2_with fail
        refine HSC.out.mono ?_
        rintro e w2 ⟨rfl, n, os, hw2⟩
        have HB2 : Hid (Below w.heap.size w w2) := by rw [hw2]; exact HBW.out.trans (sort_belowG (by have := HG.out.1; omega) HG.out.2)
        have hrl : (riseD o L).length = L.length := riseG_len L
        have HH2 : Hid (RowD w2 g 0 (riseD o L).toArray) := by
          show RowD _ _ _ _
          rw [hw2]; exact rowD_of (sort_holdsG HG.out.2 HH.out (by simp [hrl]))
        have HS2 : Hid (wr.heap.size ≤ w2.heap.size) := by
          show _ ≤ _
          rw [hw2]; exact (sort_belowG (n0 := 0) (Nat.zero_le _) HG.out.2).size
        have HRL := Lib.hid hrl
        clear hw2 hrl HSC
        have hcon := compD_any g 0 cap (riseD o L).toArray w2 w.heap.size (by have := HG.out.1; omega) (Nat.lt_of_lt_of_le HG.out.2 HS2.out) HH2.out (by have := HLL.out.2; simp [HRL.out]; omega) (by simp [HRL.out]; exact HLC.out)
        rw [show (riseD o L).toArray.size = L.length from by simp [HRL.out]] at hcon
        have HCON := Lib.hid hcon
        clear hcon
        go_wp2_with fail
        refine HCON.out.mono ?_
        rintro e w3 ⟨r, hr, rfl, hsl, hb3, hsz3⟩
        have hr2 : r = sortsD o l := by
          rw [HSE.out]
          exact hr.trans (compAll (ordD_is HIO.out) (riseD o L).toArray)
        have HF : Hid (SlD w3 w3.heap.size (some ⟨g, 0, none⟩) (sortsD o l) ∧ Below w.heap.size w w3) := by
          rw [← hr2]
          exact ⟨hsl.more hsz3, HB2.out.trans hb3⟩
        rw [hr2]
        clear hr hr2 hsl hb3 hsz3
        go_wp2
        go_ret
        exact ⟨_, _, rfl, HF.out⟩
end Go.Proofs.Ytkoknogefmfmnaa
