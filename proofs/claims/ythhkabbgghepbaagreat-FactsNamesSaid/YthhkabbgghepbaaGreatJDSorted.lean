import Derived.WalkMore
import Derived.Test.YthhkabbgghepbaaGreatJDCmp
import Derived.Test.YthhkabbgghepbaaGreatJDRefC
import Derived.StillTailTactics
import Derived.Test.YthhkabbgghepbaaGreatJDComp
import Derived.Test.YthhkabbgghepbaaGreatJDSortD
import Derived.Test.YthhkabbgghepbaaGreatJDRefS
/-
  CONTRACT over datoms: Key.
-/
namespace Go.Proofs.YthhkabbgghepbaaGreat
open Go.RowKit Go.Shelf
attribute [local go_sem] Oper.semAt_some

theorem arr_set5 (l : List PartP) (x : Nat) (p : PartP) (h : l.length = 7) (hx : x < 7) :
    (((((l.flatMap cellsP).toArray.setIfInBounds (x * 5) (.bool p.v)).setIfInBounds (x * 5 + 1) (.int .i64 p.n)).setIfInBounds (x * 5 + 2) (.int .i64 p.k)).setIfInBounds (x * 5 + 3) (.int .i64 p.m)).setIfInBounds (x * 5 + 4) (.string p.s) = ((l.set x p).flatMap cellsP).toArray := by
  obtain ⟨p0, p1, p2, p3, p4, p5, p6, rfl⟩ := list7 h
  match x, hx with
  | 0, _ => simp [cellsP]
  | 1, _ => simp [cellsP]
  | 2, _ => simp [cellsP]
  | 3, _ => simp [cellsP]
  | 4, _ => simp [cellsP]
  | 5, _ => simp [cellsP]
  | 6, _ => simp [cellsP]
theorem below_set5o {W : World} {B b o : Nat} (hb : B ≤ b) (u0 u1 u2 u3 u4 : Value) : Below B W (((((W.setCell ⟨b, o, none⟩ u0).setCell ⟨b, o + 1, none⟩ u1).setCell ⟨b, o + 2, none⟩ u2).setCell ⟨b, o + 3, none⟩ u3).setCell ⟨b, o + 4, none⟩ u4) :=
  (((((Below.refl B W).setCell (p := ⟨b, o, none⟩) hb _).setCell (p := ⟨b, o + 1, none⟩) hb _).setCell (p := ⟨b, o + 2, none⟩) hb _).setCell (p := ⟨b, o + 3, none⟩) hb _).setCell (p := ⟨b, o + 4, none⟩) hb _
theorem other_set5o {W : World} {b o k : Nat} (hk : k ≠ b) (u0 u1 u2 u3 u4 : Value) : (((((W.setCell ⟨b, o, none⟩ u0).setCell ⟨b, o + 1, none⟩ u1).setCell ⟨b, o + 2, none⟩ u2).setCell ⟨b, o + 3, none⟩ u3).setCell ⟨b, o + 4, none⟩ u4).heap[k]? = W.heap[k]? := by
  rw [Below.heap_setCell _ _ _ _ (by exact hk), Below.heap_setCell _ _ _ _ (by exact hk), Below.heap_setCell _ _ _ _ (by exact hk), Below.heap_setCell _ _ _ _ (by exact hk), Below.heap_setCell _ _ _ _ (by exact hk)]
def zeroPs : List PartP := [zeroP, zeroP, zeroP, zeroP, zeroP, zeroP, zeroP]
/-- Compare, in no order. -/
theorem cmpD_no (o : Int) (a b : Dat) (w : World) (ho : isO o = false) : Calls Tryz.prog 61 #[.int .i64 o, .agg #[.int .i64 a.e, .int .i64 a.a, .int .i64 a.k, .int .i64 a.m, .string a.s, .int .i64 a.t, .bool a.add, .int .i64 a.fr, .int .i64 a.til], .agg #[.int .i64 b.e, .int .i64 b.a, .int .i64 b.k, .int .i64 b.m, .string b.s, .int .i64 b.t, .bool b.add, .int .i64 b.fr, .int .i64 b.til]] w fun e w' => e = .returned (.int .i64 (ordD o a b)) ∧ Below w.heap.size w w' := by
  have HE : Hid (ordD o a b = 0) := by show _ = _; unfold ordD; rw [ho]; rfl
  have HB0 : Hid (Below w.heap.size w ((w.alloc (.cells #[.int .i64 a.e, .int .i64 a.a, .int .i64 a.k, .int .i64 a.m, .string a.s, .int .i64 a.t, .bool a.add, .int .i64 a.fr, .int .i64 a.til] 46)).alloc (.cells #[.int .i64 b.e, .int .i64 b.a, .int .i64 b.k, .int .i64 b.m, .string b.s, .int .i64 b.t, .bool b.add, .int .i64 b.fr, .int .i64 b.til] 46))) := ((Below.refl _ _).alloc (Nat.le_refl _) _).alloc (by simp) _
  have h9 := placesOf_any o ((w.alloc (.cells #[.int .i64 a.e, .int .i64 a.a, .int .i64 a.k, .int .i64 a.m, .string a.s, .int .i64 a.t, .bool a.add, .int .i64 a.fr, .int .i64 a.til] 46)).alloc (.cells #[.int .i64 b.e, .int .i64 b.a, .int .i64 b.k, .int .i64 b.m, .string b.s, .int .i64 b.t, .bool b.add, .int .i64 b.fr, .int .i64 b.til] 46))
  have e : plcV o = .agg #[.int .i64 (0 : Int), .int .i64 (0 : Int), .int .i64 (0 : Int)] := by
    unfold plcV
    have := noO ho
    rw [if_neg (by omega), if_neg (by omega), if_neg (by omega), if_neg (by omega)]
  rw [ho, e] at h9
  have H9 := Lib.hid h9
  clear ho h9 e
  go_enter Tryz.func61, Tryz.ntmps61
  go_wp2
  go_step3
  go_wp2_with fail
  refine H9.out.mono ?_
  rintro e w1 ⟨rfl, hb⟩
  have HB1 := Lib.hid (HB0.out.trans (hb.mono HB0.out.size))
  clear hb
  go_wp2
  rw [Exit.noGoto_ret]
  go_ret
  exact ⟨by rw [HE.out]; rfl, HB1.out.alloc HB1.out.size _⟩
theorem cmpD_any (o : Int) (a b : Dat) (w : World) : Calls Tryz.prog 61 #[.int .i64 o, .agg #[.int .i64 a.e, .int .i64 a.a, .int .i64 a.k, .int .i64 a.m, .string a.s, .int .i64 a.t, .bool a.add, .int .i64 a.fr, .int .i64 a.til], .agg #[.int .i64 b.e, .int .i64 b.a, .int .i64 b.k, .int .i64 b.m, .string b.s, .int .i64 b.t, .bool b.add, .int .i64 b.fr, .int .i64 b.til]] w fun e w' => e = .returned (.int .i64 (ordD o a b)) ∧ Below w.heap.size w w' := by
  cases ho : isO o
  · exact cmpD_no o a b w ho
  · exact cmpD_yes o a b w ho
end Go.Proofs.YthhkabbgghepbaaGreat

/-
  CONTRACT over datoms: the datom that has parts.
-/
namespace Go.Proofs.YthhkabbgghepbaaGreat
open Go.RowKit

/-- a datom in a slot -/
def dV (d : Dat) : Value := .agg #[.int .i64 d.e, .int .i64 d.a, .int .i64 d.k, .int .i64 d.m, .string d.s, .int .i64 d.t, .bool d.add, .int .i64 d.fr, .int .i64 d.til]
/-- the datom that has parts, E, A and V at any three places -/
def datPl (pe pa pv : Nat) (l : List PartP) : Dat :=
  ⟨((l[pe]?).getD (numP 0)).n, ((l[pa]?).getD (numP 0)).n, ((l[pv]?).getD (numP 0)).k, ((l[pv]?).getD (numP 0)).m, ((l[pv]?).getD (numP 0)).s, ((l[3]?).getD (numP 0)).n, decide (((l[4]?).getD (numP 0)).n = 0), ((l[5]?).getD (numP 0)).n, ((l[6]?).getD (numP 0)).n⟩
theorem datPl_is (o : Int) (l : List PartP) : datPl (plE o) (plA o) (plV o) l = datL o l := rfl
theorem SlP.get {W : World} {b o : Nat} {l : List PartP} (h : ∀ (j : Nat) (p : PartP), l[j]? = some p → PartAt W b (o + j * 5) p) (j : Nat) (hj : j < l.length) : PartAt W b (o + j * 5) ((l[j]?).getD (numP 0)) := by
  have h1 := h j l[j] (List.getElem?_eq_getElem hj)
  rw [List.getElem?_eq_getElem hj]
  exact h1
/-- what the region reads -/
def MS (wz b o pe pa pv : Nat) (xe xa xv x3 x5 x6 : PartP) (W : World) : Prop :=
  (W.cell? ⟨wz, 0, none⟩ = some (.int .i64 (pe : Int)) ∧ W.cell? ⟨wz, 1, none⟩ = some (.int .i64 (pa : Int)) ∧ W.cell? ⟨wz, 2, none⟩ = some (.int .i64 (pv : Int))) ∧
  W.cell? ⟨b, o + pe * 5 + 1, none⟩ = some (.int .i64 xe.n) ∧ W.cell? ⟨b, o + pa * 5 + 1, none⟩ = some (.int .i64 xa.n) ∧
  (W.cell? ⟨b, o + pv * 5 + 2, none⟩ = some (.int .i64 xv.k) ∧ W.cell? ⟨b, o + pv * 5 + 2 + 1, none⟩ = some (.int .i64 xv.m) ∧ W.cell? ⟨b, o + pv * 5 + 2 + 2, none⟩ = some (.string xv.s)) ∧
  W.cell? ⟨b, o + 15 + 1, none⟩ = some (.int .i64 x3.n) ∧ W.cell? ⟨b, o + 25 + 1, none⟩ = some (.int .i64 x5.n) ∧ W.cell? ⟨b, o + 30 + 1, none⟩ = some (.int .i64 x6.n)
theorem MS.next {wz b o pe pa pv B : Nat} {xe xa xv x3 x5 x6 : PartP} {W W' : World} (h : MS wz b o pe pa pv xe xa xv x3 x5 x6 W) (hb : Below B W W') (h1 : wz < B) (h2 : b < B) : MS wz b o pe pa pv xe xa xv x3 x5 x6 W' := by
  obtain ⟨⟨a0, a1, a2⟩, a3, a4, ⟨a5, a6, a7⟩, a8, a9, a10⟩ := h
  have k1 : ∀ j, W'.cell? ⟨wz, j, none⟩ = W.cell? ⟨wz, j, none⟩ := fun j => hb.cell (p := ⟨wz, j, none⟩) h1
  have k2 : ∀ j, W'.cell? ⟨b, j, none⟩ = W.cell? ⟨b, j, none⟩ := fun j => hb.cell (p := ⟨b, j, none⟩) h2
  exact ⟨⟨(k1 _).trans a0, (k1 _).trans a1, (k1 _).trans a2⟩, (k2 _).trans a3, (k2 _).trans a4, ⟨(k2 _).trans a5, (k2 _).trans a6, (k2 _).trans a7⟩, (k2 _).trans a8, (k2 _).trans a9, (k2 _).trans a10⟩
theorem DatAt.set9 {W : World} {b : Nat} {d : Dat} (h : DatAt W b d) (q : Dat) :
    DatAt (((((((((W.setCell ⟨b, 0, none⟩ (.int .i64 q.e)).setCell ⟨b, 1, none⟩ (.int .i64 q.a)).setCell ⟨b, 2, none⟩ (.int .i64 q.k)).setCell ⟨b, 3, none⟩ (.int .i64 q.m)).setCell ⟨b, 4, none⟩ (.string q.s)).setCell ⟨b, 5, none⟩ (.int .i64 q.t)).setCell ⟨b, 6, none⟩ (.bool q.add)).setCell ⟨b, 7, none⟩ (.int .i64 q.fr)).setCell ⟨b, 8, none⟩ (.int .i64 q.til)) b q :=
  (heap_setCell_same _ _ _ _ _ _ (heap_setCell_same _ _ _ _ _ _ (heap_setCell_same _ _ _ _ _ _ (heap_setCell_same _ _ _ _ _ _ (heap_setCell_same _ _ _ _ _ _ (heap_setCell_same _ _ _ _ _ _ (heap_setCell_same _ _ _ _ _ _ (heap_setCell_same _ _ _ _ _ _ (heap_setCell_same _ _ _ _ _ _ h))))))))).trans (by simp)
theorem below_set9 {W : World} {B b : Nat} (hb : B ≤ b) (u0 u1 u2 u3 u4 u5 u6 u7 u8 : Value) :
    Below B W (((((((((W.setCell ⟨b, 0, none⟩ u0).setCell ⟨b, 1, none⟩ u1).setCell ⟨b, 2, none⟩ u2).setCell ⟨b, 3, none⟩ u3).setCell ⟨b, 4, none⟩ u4).setCell ⟨b, 5, none⟩ u5).setCell ⟨b, 6, none⟩ u6).setCell ⟨b, 7, none⟩ u7).setCell ⟨b, 8, none⟩ u8) :=
  ((((((((((Below.refl B W).setCell (p := ⟨b, 0, none⟩) hb _).setCell (p := ⟨b, 1, none⟩) hb _).setCell (p := ⟨b, 2, none⟩) hb _).setCell (p := ⟨b, 3, none⟩) hb _).setCell (p := ⟨b, 4, none⟩) hb _).setCell (p := ⟨b, 5, none⟩) hb _).setCell (p := ⟨b, 6, none⟩) hb _).setCell (p := ⟨b, 7, none⟩) hb _).setCell (p := ⟨b, 8, none⟩) hb _)

end Go.Proofs.YthhkabbgghepbaaGreat

/-
  CONTRACT: datom.Sorted.
-/
namespace Go.Proofs.YthhkabbgghepbaaGreat
open Go.RowKit Go.Shelf
open Go.Sort (HoldsK)

set_option maxHeartbeats 400000 in
theorem compD_nil (A : Option Addr) (c : Nat) (w : World) :
    Calls Tryz.prog 62 #[.slice A 0 c] w fun e w' => e = .returned (.slice A 0 c) ∧ w = w' := by
  go_enter Tryz.func62, Tryz.ntmps62
  go_wp2
  go_ret
  exact ⟨rfl, rfl⟩
theorem hasD_isO {o : Int} {d : Dat} (h : hasD o d = true) : isO o = true := by
  cases ho : isO o with
  | true => rfl
  | false => rw [isO_no ho] at h; cases h
theorem sortsD_nil {o : Int} {l : List Dat} (h : l.filter (hasD o) = []) : sortsD o l = [] := by
  unfold sortsD
  split
  · rw [h]; rfl
  · rfl
theorem sortsD_is {o : Int} {l : List Dat} (h : l.filter (hasD o) ≠ []) : isO o = true ∧ sortsD o l = compG (ordD o) (riseG (ordD o) (l.filter (hasD o))) := by
  have ho : isO o = true := by
    cases hq : l.filter (hasD o) with
    | nil => exact absurd hq h
    | cons x r =>
      have : x ∈ l.filter (hasD o) := by rw [hq]; simp
      exact hasD_isO (List.mem_filter.1 this).2
  refine ⟨ho, ?_⟩
  unfold sortsD
  rw [if_pos ho, sorted_once (ordD_is ho)]

set_option maxRecDepth 100000 in
set_option maxHeartbeats 4000000 in
theorem sortedD_cap (o : Int) (A : Option Addr) (c : Nat) (l : List Dat) (w : World) (hs : SlD w w.heap.size A l) (hl : l.length * 80 ≤ 140737488355328) :
    Calls Tryz.prog 31 #[.int .i64 o, .slice A l.length c] w fun e w' => ∃ A' c', e = .returned (.slice A' (sortsD o l).length c') ∧ SlD w' w'.heap.size A' (sortsD o l) ∧ Below w.heap.size w w' ∧ (sortsD o l).length ≤ c' ∧ c' ≤ maxLen := by
  obtain ⟨i0, hi, hz0, hz1, hz2⟩ := info_parts infoD
  have hmx : 2000000000000 ≤ maxLen := by decide
  have HS := Lib.hid hs
  clear hs
  go_enter Tryz.func31, Tryz.ntmps31
  go_wp2
  obtain ⟨w0, hw0⟩ : ∃ w0, w.alloc (.cells #[.int .i64 o] 3) = w0 := ⟨_, rfl⟩
  have HZ0 : Hid (w0.heap.size = w.heap.size + 1) := by rw [← hw0]; show _ = _; simp
  have HB0 : Hid (Below w.heap.size w w0) := by rw [← hw0]; exact (Below.refl _ _).alloc (Nat.le_refl _) _
  have HOB : Hid (w0.cell? ⟨w.heap.size, 0, none⟩ = some (.int .i64 o)) := by rw [← hw0]; show _ = _; simp
  rw [hw0]
  clear hw0
  go_loopg [5, 7, 10] l.length (fun g x5 _ x10 wr => ∃ j : Nat, OwnD wr (w.heap.size + 1) x5 ((l.take j).filter (hasD o)) ∧ x10 = .int .i64 j ∧ j + g = l.length ∧ Hid (Below (w.heap.size + 1) w0 wr) ∧ w.heap.size + 1 ≤ wr.heap.size)
  case atStart => exact ⟨0, World.ownsRow_nil _ _ _ _, rfl, by omega, Below.refl _ _, by have := HZ0.out; omega⟩
  case round =>
    obtain ⟨j, ho, rfl, hj, HB, hsz⟩ := hrel
    have hfl : ((l.take j).filter (hasD o)).length ≤ j := Nat.le_trans (List.length_filter_le _ _) (List.length_take_le _ _)
    cases gk with
    | succ g =>
      have hji : (j : Int) < (l.length : Int) := by omega
      have hjn : j < l.length := by omega
      have HBW : Hid (Below w.heap.size w wr) := HB0.out.trans (HB.out.mono (Nat.le_succ _))
      obtain ⟨b, q, rfl, hbl, hp⟩ := (HS.out.next HBW.out (Nat.le_refl _)).at_ hjn
      have hft := filter_take (hasD o) hjn
      obtain ⟨x, hpe⟩ : ∃ p, l[j] = p := ⟨_, rfl⟩
      rw [hpe] at hp hft
      obtain ⟨L, hL⟩ : ∃ L, (l.take j).filter (hasD o) = L := ⟨_, rfl⟩
      rw [hL] at ho hfl hft
      obtain ⟨A1, c1, rfl, _, _, _, _, _⟩ := ho.form
      have HO := Lib.hid ho
      have HFT := Lib.hid hft
      have m0 := hp.c0
      have m1 := hp.c1
      have m2 := hp.c2
      have m3 := hp.c3
      have m4 := hp.c4
      have m5 := hp.c5
      have m6 := hp.c6
      have m7 := hp.c7
      have m8 := hp.c8
      have HD : Hid (DatAt (wr.alloc (.cells #[.int .i64 x.e, .int .i64 x.a, .int .i64 x.k, .int .i64 x.m, .string x.s, .int .i64 x.t, .bool x.add, .int .i64 x.fr, .int .i64 x.til] 46)) wr.heap.size x) := datAt_new wr x
      have HBZ : Hid (Below wr.heap.size wr (wr.alloc (.cells #[.int .i64 x.e, .int .i64 x.a, .int .i64 x.k, .int .i64 x.m, .string x.s, .int .i64 x.t, .bool x.add, .int .i64 x.fr, .int .i64 x.til] 46))) := (Below.refl wr.heap.size wr).alloc (Nat.le_refl _) _
      clear ho hft hL hp hpe
      go_upto_region 5 with (fail)
      obtain ⟨wz, hwz⟩ : ∃ wz, (wr.alloc (.cells #[.int .i64 x.e, .int .i64 x.a, .int .i64 x.k, .int .i64 x.m, .string x.s, .int .i64 x.t, .bool x.add, .int .i64 x.fr, .int .i64 x.til] 46)) = wz := ⟨_, rfl⟩
      rw [hwz] at HD HBZ ⊢
      clear hwz m0 m1 m2 m3 m4 m5 m6 m7 m8
      have HOZ : Hid (wz.cell? ⟨w.heap.size, 0, none⟩ = some (.int .i64 o)) := (HBZ.out.cell (p := ⟨w.heap.size, 0, none⟩) (by show w.heap.size < _; omega)).trans ((HB.out.cell (p := ⟨w.heap.size, 0, none⟩) (Nat.lt_succ_self _)).trans HOB.out)
      have HO1 := Lib.hid (HO.out.next HBZ.out)
      have HB1 := Lib.hid (HB.out.trans (HBZ.out.mono hsz))
      have hoz := HOZ.out
      have z0 := HD.out.c0
      have z1 := HD.out.c1
      have z2 := HD.out.c2
      have z3 := HD.out.c3
      have z4 := HD.out.c4
      have z5 := HD.out.c5
      have z6 := HD.out.c6
      have z7 := HD.out.c7
      have z8 := HD.out.c8
      go_wp2_with fail
      refine (has_any o x _).mono ?_
      rintro e w2 ⟨rfl, hb2⟩
      have HD2 := Lib.hid (HD.out.next hb2 HD.out.lt)
      have HO2 := Lib.hid (HO1.out.next hb2)
      have HB2 := Lib.hid (HB1.out.trans (hb2.mono (Nat.le_trans hsz HBZ.out.size)))
      have HS2 : Hid (w.heap.size + 1 ≤ w2.heap.size) := Nat.le_trans hsz (Nat.le_trans HBZ.out.size hb2.size)
      clear hb2 hoz z0 z1 z2 z3 z4 z5 z6 z7 z8
      obtain ⟨hh, hhe⟩ : ∃ hh, hasD o x = hh := ⟨_, rfl⟩
      rw [hhe] at HFT ⊢
      clear hhe
      cases hh with
      | false =>
        have HF : Hid ((l.take (j + 1)).filter (hasD o) = L) := by show _ = _; rw [HFT.out]; simp
        go_wp2
        go_roundg g
        case measure => omega
        case rel => exact ⟨j + 1, by rw [HF.out]; exact HO2.out, by go_num, by omega, HB2.out, HS2.out⟩
      | true =>
        have HF : Hid ((l.take (j + 1)).filter (hasD o) = L ++ [x]) := by show _ = _; rw [HFT.out]; simp
        have z0 := HD2.out.c0
        have z1 := HD2.out.c1
        have z2 := HD2.out.c2
        have z3 := HD2.out.c3
        have z4 := HD2.out.c4
        have z5 := HD2.out.c5
        have z6 := HD2.out.c6
        have z7 := HD2.out.c7
        have z8 := HD2.out.c8
        have HOA : Hid (OwnD (w2.alloc (.cells #[.int .i64 x.e, .int .i64 x.a, .int .i64 x.k, .int .i64 x.m, .string x.s, .int .i64 x.t, .bool x.add, .int .i64 x.fr, .int .i64 x.til] 46)) (w.heap.size + 1) (.slice A1 L.length c1) L) := World.ownsRow.alloc HO2.out _
        have HBA := Lib.hid (HB2.out.alloc HS2.out (.cells #[.int .i64 x.e, .int .i64 x.a, .int .i64 x.k, .int .i64 x.m, .string x.s, .int .i64 x.t, .bool x.add, .int .i64 x.fr, .int .i64 x.til] 46))
        have HLC := Lib.hid (litD w2 x)
        have hbs : (w.heap.size + 1 ≤ (w2.alloc (.cells #[.int .i64 x.e, .int .i64 x.a, .int .i64 x.k, .int .i64 x.m, .string x.s, .int .i64 x.t, .bool x.add, .int .i64 x.fr, .int .i64 x.til] 46)).heap.size) := by simp; have := HS2.out; omega
        have HBS := Lib.hid hbs
        clear hbs
        go_wp2_with (at_builtin; refine wpList_append_any rfl _ _ 22 rfl (w.heap.size + 1) 46 i0 (.agg #[.int .i64 0, .int .i64 0, .int .i64 0, .int .i64 0, .string ⟨#[]⟩, .int .i64 0, .bool false, .int .i64 0, .int .i64 0]) 9 80 Tryz.underlying22 hi hz0 hz1 hz2 rfl (by decide) _ _ _ rfl HOA.out (some ⟨w2.heap.size, 0, none⟩) 1 1 ([x].flatMap cellsD) rfl rfl (fun h => by cases h) HLC.out (cellsD_all _) (by omega) (by omega) HBS.out ?_; intro v1 w3 hown hgrow; have HV1 : Hid (OwnD w3 (w.heap.size + 1) v1 (L ++ [x])) := ownD_of hown; have HB3 := Lib.hid (HBA.out.trans (below_ownD HOA.out hgrow HBS.out)); have HS3 : Hid (w.heap.size + 1 ≤ w3.heap.size) := (by have := HB3.out.size; have := HZ0.out; show _ ≤ _; omega); clear hown hgrow z0 z1 z2 z3 z4 z5 z6 z7 z8)
        go_roundg g
        case measure => omega
        case rel => exact ⟨j + 1, by rw [HF.out]; exact HV1.out, by go_num, by omega, HB3.out, HS3.out⟩
    | zero =>
      obtain rfl : j = l.length := by omega
      have hji : ¬ ((l.length : Int) < (l.length : Int)) := by omega
      rw [List.take_length] at ho hfl
      have HBW : Hid (Below w.heap.size w wr) := HB0.out.trans (HB.out.mono (Nat.le_succ _))
      by_cases hnil : l.filter (hasD o) = []
      · have HE : Hid (sortsD o l = []) := sortsD_nil hnil
        rw [hnil] at ho
        obtain ⟨A1, c1, rfl, _, _, hcm1, _, _⟩ := ho.form
        have HCM := Lib.hid hcm1
        clear hcm1
        have hcon := AnyF.slices_SortFunc_none Tryz.sortDatom A1 c1 (.func (.func 60) #[] #[.pointer (some ⟨w.heap.size, 0, none⟩)]) wr
        change Calls Tryz.prog 59 #[.slice A1 0 c1, _] _ _ at hcon
        have HCON := Lib.hid hcon
        clear hcon ho hnil hfl
        simp only [List.length_nil]
        go_wp2_with fail
        refine HCON.out.mono ?_
        rintro e w2 ⟨rfl, rfl⟩
        go_wp2_with fail
        refine (compD_nil A1 c1 _).mono ?_
        rintro e w3 ⟨rfl, rfl⟩
        go_wp2
        go_ret
        exact ⟨A1, c1, by rw [HE.out]; rfl, by rw [HE.out]; exact fun h => absurd rfl h, HBW.out, by rw [HE.out]; exact Nat.zero_le _, HCM.out⟩
      · obtain ⟨hio, hse⟩ := sortsD_is hnil
        have h0 : 0 < (l.filter (hasD o)).length := List.length_pos_iff.2 hnil
        obtain ⟨L, hL⟩ : ∃ L, l.filter (hasD o) = L := ⟨_, rfl⟩
        rw [hL] at ho hfl h0 hse
        have HSE := Lib.hid hse
        have HIO := Lib.hid hio
        rcases ho.2 with ⟨_, h1⟩ | ⟨g, cap, cur, rfl, hgB, hgb, hlc, hcm, _⟩
        · omega
        have hr : wr.ownsRow (w.heap.size + 1) 46 9 (.slice (some ⟨g, 0, none⟩) L.length cap) L.length (L.flatMap cellsD) := ho
        have hg1 : g < wr.heap.size := (Array.getElem?_eq_some_iff.1 hgb).1
        have HH := Lib.hid (holds_ownG cellsD_len (by decide) hr)
        have HLC := Lib.hid hlc
        have HCM := Lib.hid hcm
        have HG := Lib.hid (show w.heap.size + 1 ≤ g ∧ g < wr.heap.size from ⟨hgB, hg1⟩)
        have HLL := Lib.hid (show 0 < L.length ∧ L.length ≤ 2000000000000 from ⟨h0, by omega⟩)
        have hcb : wr.cell? ⟨w.heap.size, 0, none⟩ = some (.int .i64 o) := (HB.out.cell (p := ⟨w.heap.size, 0, none⟩) (Nat.lt_succ_self _)).trans HOB.out
        have HSC := Lib.hid (sortD_any o hio w.heap.size g cap L wr (w.heap.size + 1) hr hg1 (by omega) (by omega) hcb)
        clear ho hr hlc hcm hgB hg1 hgb h0 hse hio hnil hcb hL hfl
        go_wp2_with fail
        refine HSC.out.mono ?_
        rintro e w2 ⟨rfl, n, os, hw2⟩
        have HB2 : Hid (Below w.heap.size w w2) := by rw [hw2]; exact HBW.out.trans (sort_belowG (by have := HG.out.1; omega) HG.out.2)
        have hrl : (riseD o L).length = L.length := riseG_len L
        have HH2 : Hid (RowD w2 g 0 (riseD o L).toArray) := by
          show RowD _ _ _ _
          rw [hw2]; exact rowD_of (sort_holdsG HG.out.2 HH.out (by simp [hrl]))
        have HS2 : Hid (wr.heap.size ≤ w2.heap.size) := by
          show _ ≤ _
          rw [hw2]; exact (sort_belowG (n0 := 0) (Nat.zero_le _) HG.out.2).size
        have HRL := Lib.hid hrl
        clear hw2 hrl HSC
        have hcon := compD_any g 0 cap (riseD o L).toArray w2 w.heap.size (by have := HG.out.1; omega) (Nat.lt_of_lt_of_le HG.out.2 HS2.out) HH2.out (by have := HLL.out.2; simp [HRL.out]; omega) (by simp [HRL.out]; exact HLC.out)
        rw [show (riseD o L).toArray.size = L.length from by simp [HRL.out]] at hcon
        have HCON := Lib.hid hcon
        clear hcon
        go_wp2_with fail
        refine HCON.out.mono ?_
        rintro e w3 ⟨r, hr, rfl, hsl, hb3, hsz3⟩
        have hr2 : r = sortsD o l := by
          rw [HSE.out]
          exact hr.trans (compAll (ordD_is HIO.out) (riseD o L).toArray)
        have HF : Hid (SlD w3 w3.heap.size (some ⟨g, 0, none⟩) (sortsD o l) ∧ Below w.heap.size w w3 ∧ (sortsD o l).length ≤ cap ∧ cap ≤ maxLen) := by
          rw [← hr2]
          refine ⟨hsl.more hsz3, HB2.out.trans hb3, ?_, HCM.out⟩
          rw [hr]
          refine Nat.le_trans (compUp_len _ _) ?_
          rw [List.size_toArray, HRL.out]
          exact HLC.out
        rw [hr2]
        clear hr hr2 hsl hb3 hsz3
        go_wp2
        go_ret
        exact ⟨_, _, rfl, HF.out⟩
theorem sortedD_any (o : Int) (A : Option Addr) (c : Nat) (l : List Dat) (w : World) (hs : SlD w w.heap.size A l) (hl : l.length * 80 ≤ 140737488355328) :
    Calls Tryz.prog 31 #[.int .i64 o, .slice A l.length c] w fun e w' => ∃ A' c', e = .returned (.slice A' (sortsD o l).length c') ∧ SlD w' w'.heap.size A' (sortsD o l) ∧ Below w.heap.size w w' :=
  (sortedD_cap o A c l w hs hl).mono fun _ _ ⟨A', c', h1, h2, h3, _⟩ => ⟨A', c', h1, h2, h3⟩
end Go.Proofs.YthhkabbgghepbaaGreat
