import Derived.StillTailTactics
import Derived.WalkMore
import Derived.Test.YthdjlaombbeagaaGreatJDCmp
import Derived.Test.YthdjlaombbeagaaGreatJFTogR
import Derived.Test.YthdjlaombbeagaaGreatJDSortD
import Derived.Test.YthdjlaombbeagaaGreatJDRefS
import Derived.Test.YthdjlaombbeagaaGreatJFLastP
import Derived.Test.YthdjlaombbeagaaGreatJOWords
import Derived.Test.YthdjlaombbeagaaGreatJVRef
import Derived.Sort.CutIn
/-
  CONTRACT over datoms: the datom that has parts.
-/
namespace Go.Proofs.YthdjlaombbeagaaGreat
open Go.RowKit

/-- what the region reads -/
def MS (wz b o pe pa pv : Nat) (xe xa xv x3 x5 x6 : PartP) (W : World) : Prop :=
  (W.cell? ⟨wz, 0, none⟩ = some (.int .i64 (pe : Int)) ∧ W.cell? ⟨wz, 1, none⟩ = some (.int .i64 (pa : Int)) ∧ W.cell? ⟨wz, 2, none⟩ = some (.int .i64 (pv : Int))) ∧
  W.cell? ⟨b, o + pe * 5 + 1, none⟩ = some (.int .i64 xe.n) ∧ W.cell? ⟨b, o + pa * 5 + 1, none⟩ = some (.int .i64 xa.n) ∧
  (W.cell? ⟨b, o + pv * 5 + 2, none⟩ = some (.int .i64 xv.k) ∧ W.cell? ⟨b, o + pv * 5 + 2 + 1, none⟩ = some (.int .i64 xv.m) ∧ W.cell? ⟨b, o + pv * 5 + 2 + 2, none⟩ = some (.string xv.s)) ∧
  W.cell? ⟨b, o + 15 + 1, none⟩ = some (.int .i64 x3.n) ∧ W.cell? ⟨b, o + 25 + 1, none⟩ = some (.int .i64 x5.n) ∧ W.cell? ⟨b, o + 30 + 1, none⟩ = some (.int .i64 x6.n)
theorem MS.next {wz b o pe pa pv B : Nat} {xe xa xv x3 x5 x6 : PartP} {W W' : World} (h : MS wz b o pe pa pv xe xa xv x3 x5 x6 W) (hb : Below B W W') (h1 : wz < B) (h2 : b < B) : MS wz b o pe pa pv xe xa xv x3 x5 x6 W' := by
  obtain ⟨⟨a0, a1, a2⟩, a3, a4, ⟨a5, a6, a7⟩, a8, a9, a10⟩ := h
  have k1 : ∀ j, W'.cell? ⟨wz, j, none⟩ = W.cell? ⟨wz, j, none⟩ := fun j => hb.cell (p := ⟨wz, j, none⟩) h1
  have k2 : ∀ j, W'.cell? ⟨b, j, none⟩ = W.cell? ⟨b, j, none⟩ := fun j => hb.cell (p := ⟨b, j, none⟩) h2
  exact ⟨⟨(k1 _).trans a0, (k1 _).trans a1, (k1 _).trans a2⟩, (k2 _).trans a3, (k2 _).trans a4, ⟨(k2 _).trans a5, (k2 _).trans a6, (k2 _).trans a7⟩, (k2 _).trans a8, (k2 _).trans a9, (k2 _).trans a10⟩
end Go.Proofs.YthdjlaombbeagaaGreat

/-
  CONTRACT: datom.Sorted.
-/
namespace Go.Proofs.YthdjlaombbeagaaGreat
open Go.RowKit Go.Shelf
open Go.Sort (HoldsK)

set_option maxHeartbeats 400000 in
theorem compD_nil (A : Option Addr) (c : Nat) (w : World) :
    Calls Tryz.prog 41 #[.slice A 0 c] w fun e w' => e = .returned (.slice A 0 c) ∧ w = w' := by
  go_enter Tryz.func41, Tryz.ntmps41
  go_wp2
  go_ret
  exact ⟨rfl, rfl⟩
theorem hasD_isO {o : Int} {d : Dat} (h : hasD o d = true) : isO o = true := by
  cases ho : isO o with
  | true => rfl
  | false => rw [isO_no ho] at h; cases h
theorem sortsD_nil {o : Int} {l : List Dat} (h : l.filter (hasD o) = []) : sortsD o l = [] := by
  unfold sortsD
  split
  · rw [h]; rfl
  · rfl
theorem sortsD_is {o : Int} {l : List Dat} (h : l.filter (hasD o) ≠ []) : isO o = true ∧ sortsD o l = compG (ordD o) (riseG (ordD o) (l.filter (hasD o))) := by
  have ho : isO o = true := by
    cases hq : l.filter (hasD o) with
    | nil => exact absurd hq h
    | cons x r =>
      have : x ∈ l.filter (hasD o) := by rw [hq]; simp
      exact hasD_isO (List.mem_filter.1 this).2
  refine ⟨ho, ?_⟩
  unfold sortsD
  rw [if_pos ho, sorted_once (ordD_is ho)]

set_option maxRecDepth 100000 in
set_option maxHeartbeats 4000000 in
theorem sortedD_cap (o : Int) (A : Option Addr) (c : Nat) (l : List Dat) (w : World) (hs : SlD w w.heap.size A l) (hl : l.length * 80 ≤ 140737488355328) :
    Calls Tryz.prog 17 #[.int .i64 o, .slice A l.length c] w fun e w' => ∃ A' c', e = .returned (.slice A' (sortsD o l).length c') ∧ SlD w' w'.heap.size A' (sortsD o l) ∧ Below w.heap.size w w' ∧ (sortsD o l).length ≤ c' ∧ c' ≤ maxLen := by
  obtain ⟨i0, hi, hz0, hz1, hz2⟩ := info_parts infoD
  have hmx : 2000000000000 ≤ maxLen := by decide
  have HS := Lib.hid hs
  clear hs
  go_enter Tryz.func17, Tryz.ntmps17
  go_wp2
  obtain ⟨w0, hw0⟩ : ∃ w0, w.alloc (.cells #[.int .i64 o] 3) = w0 := ⟨_, rfl⟩
  have HZ0 : Hid (w0.heap.size = w.heap.size + 1) := by rw [← hw0]; show _ = _; simp
  have HB0 : Hid (Below w.heap.size w w0) := by rw [← hw0]; exact (Below.refl _ _).alloc (Nat.le_refl _) _
  have HOB : Hid (w0.cell? ⟨w.heap.size, 0, none⟩ = some (.int .i64 o)) := by rw [← hw0]; show _ = _; simp
  rw [hw0]
  clear hw0
  go_loopg [5, 7, 10] l.length (fun g x5 _ x10 wr => ∃ j : Nat, OwnD wr (w.heap.size + 1) x5 ((l.take j).filter (hasD o)) ∧ x10 = .int .i64 j ∧ j + g = l.length ∧ Hid (Below (w.heap.size + 1) w0 wr) ∧ w.heap.size + 1 ≤ wr.heap.size)
  case atStart => exact ⟨0, World.ownsRow_nil _ _ _ _, rfl, by omega, Below.refl _ _, by have := HZ0.out; omega⟩
  case round =>
    obtain ⟨j, ho, rfl, hj, HB, hsz⟩ := hrel
    have hfl : ((l.take j).filter (hasD o)).length ≤ j := Nat.le_trans (List.length_filter_le _ _) (List.length_take_le _ _)
    cases gk with
    | succ g =>
      have hji : (j : Int) < (l.length : Int) := by omega
      have hjn : j < l.length := by omega
      have HBW : Hid (Below w.heap.size w wr) := HB0.out.trans (HB.out.mono (Nat.le_succ _))
      obtain ⟨b, q, rfl, hbl, hp⟩ := (HS.out.next HBW.out (Nat.le_refl _)).at_ hjn
      have hft := filter_take (hasD o) hjn
      obtain ⟨x, hpe⟩ : ∃ p, l[j] = p := ⟨_, rfl⟩
      rw [hpe] at hp hft
      obtain ⟨L, hL⟩ : ∃ L, (l.take j).filter (hasD o) = L := ⟨_, rfl⟩
      rw [hL] at ho hfl hft
      obtain ⟨A1, c1, rfl, _, _, _, _, _⟩ := ho.form
      have HO := Lib.hid ho
      have HFT := Lib.hid hft
      have m0 := hp.c0
      have m1 := hp.c1
      have m2 := hp.c2
      have m3 := hp.c3
      have m4 := hp.c4
      have m5 := hp.c5
      have m6 := hp.c6
      have m7 := hp.c7
      have m8 := hp.c8
      have HD : Hid (DatAt (wr.alloc (.cells #[.int .i64 x.e, .int .i64 x.a, .int .i64 x.k, .int .i64 x.m, .string x.s, .int .i64 x.t, .bool x.add, .int .i64 x.fr, .int .i64 x.til] 44)) wr.heap.size x) := datAt_new wr x
      have HBZ : Hid (Below wr.heap.size wr (wr.alloc (.cells #[.int .i64 x.e, .int .i64 x.a, .int .i64 x.k, .int .i64 x.m, .string x.s, .int .i64 x.t, .bool x.add, .int .i64 x.fr, .int .i64 x.til] 44))) := (Below.refl wr.heap.size wr).alloc (Nat.le_refl _) _
      clear ho hft hL hp hpe
      go_upto_region 5 with (fail)
      obtain ⟨wz, hwz⟩ : ∃ wz, (wr.alloc (.cells #[.int .i64 x.e, .int .i64 x.a, .int .i64 x.k, .int .i64 x.m, .string x.s, .int .i64 x.t, .bool x.add, .int .i64 x.fr, .int .i64 x.til] 44)) = wz := ⟨_, rfl⟩
      rw [hwz] at HD HBZ ⊢
      clear hwz m0 m1 m2 m3 m4 m5 m6 m7 m8
      have HOZ : Hid (wz.cell? ⟨w.heap.size, 0, none⟩ = some (.int .i64 o)) := (HBZ.out.cell (p := ⟨w.heap.size, 0, none⟩) (by show w.heap.size < _; omega)).trans ((HB.out.cell (p := ⟨w.heap.size, 0, none⟩) (Nat.lt_succ_self _)).trans HOB.out)
      have HO1 := Lib.hid (HO.out.next HBZ.out)
      have HB1 := Lib.hid (HB.out.trans (HBZ.out.mono hsz))
      have hoz := HOZ.out
      have z0 := HD.out.c0
      have z1 := HD.out.c1
      have z2 := HD.out.c2
      have z3 := HD.out.c3
      have z4 := HD.out.c4
      have z5 := HD.out.c5
      have z6 := HD.out.c6
      have z7 := HD.out.c7
      have z8 := HD.out.c8
      go_wp2_with fail
      refine (has_any o x _).mono ?_
      rintro e w2 ⟨rfl, hb2⟩
      have HD2 := Lib.hid (HD.out.next hb2 HD.out.lt)
      have HO2 := Lib.hid (HO1.out.next hb2)
      have HB2 := Lib.hid (HB1.out.trans (hb2.mono (Nat.le_trans hsz HBZ.out.size)))
      have HS2 : Hid (w.heap.size + 1 ≤ w2.heap.size) := Nat.le_trans hsz (Nat.le_trans HBZ.out.size hb2.size)
      clear hb2 hoz z0 z1 z2 z3 z4 z5 z6 z7 z8
      obtain ⟨hh, hhe⟩ : ∃ hh, hasD o x = hh := ⟨_, rfl⟩
      rw [hhe] at HFT ⊢
      clear hhe
      cases hh with
      | false =>
        have HF : Hid ((l.take (j + 1)).filter (hasD o) = L) := by show _ = _; rw [HFT.out]; simp
        go_wp2
        go_roundg g
        case measure => omega
        case rel => exact ⟨j + 1, by rw [HF.out]; exact HO2.out, by go_num, by omega, HB2.out, HS2.out⟩
      | true =>
        have HF : Hid ((l.take (j + 1)).filter (hasD o) = L ++ [x]) := by show _ = _; rw [HFT.out]; simp
        have z0 := HD2.out.c0
        have z1 := HD2.out.c1
        have z2 := HD2.out.c2
        have z3 := HD2.out.c3
        have z4 := HD2.out.c4
        have z5 := HD2.out.c5
        have z6 := HD2.out.c6
        have z7 := HD2.out.c7
        have z8 := HD2.out.c8
        have HOA : Hid (OwnD (w2.alloc (.cells #[.int .i64 x.e, .int .i64 x.a, .int .i64 x.k, .int .i64 x.m, .string x.s, .int .i64 x.t, .bool x.add, .int .i64 x.fr, .int .i64 x.til] 44)) (w.heap.size + 1) (.slice A1 L.length c1) L) := World.ownsRow.alloc HO2.out _
        have HBA := Lib.hid (HB2.out.alloc HS2.out (.cells #[.int .i64 x.e, .int .i64 x.a, .int .i64 x.k, .int .i64 x.m, .string x.s, .int .i64 x.t, .bool x.add, .int .i64 x.fr, .int .i64 x.til] 44))
        have HLC := Lib.hid (litD w2 x)
        have hbs : (w.heap.size + 1 ≤ (w2.alloc (.cells #[.int .i64 x.e, .int .i64 x.a, .int .i64 x.k, .int .i64 x.m, .string x.s, .int .i64 x.t, .bool x.add, .int .i64 x.fr, .int .i64 x.til] 44)).heap.size) := by simp; have := HS2.out; omega
        have HBS := Lib.hid hbs
        clear hbs
        go_wp2_with (at_builtin; refine wpList_append_any rfl _ _ 22 rfl (w.heap.size + 1) 44 i0 (.agg #[.int .i64 0, .int .i64 0, .int .i64 0, .int .i64 0, .string ⟨#[]⟩, .int .i64 0, .bool false, .int .i64 0, .int .i64 0]) 9 80 Tryz.underlying22 hi hz0 hz1 hz2 rfl (by decide) _ _ _ rfl HOA.out (some ⟨w2.heap.size, 0, none⟩) 1 1 ([x].flatMap cellsD) rfl rfl (fun h => by cases h) HLC.out (cellsD_all _) (by omega) (by omega) HBS.out ?_; intro v1 w3 hown hgrow; have HV1 : Hid (OwnD w3 (w.heap.size + 1) v1 (L ++ [x])) := ownD_of hown; have HB3 := Lib.hid (HBA.out.trans (below_ownD HOA.out hgrow HBS.out)); have HS3 : Hid (w.heap.size + 1 ≤ w3.heap.size) := (by have := HB3.out.size; have := HZ0.out; show _ ≤ _; omega); clear hown hgrow z0 z1 z2 z3 z4 z5 z6 z7 z8)
        go_roundg g
        case measure => omega
        case rel => exact ⟨j + 1, by rw [HF.out]; exact HV1.out, by go_num, by omega, HB3.out, HS3.out⟩
    | zero =>
      obtain rfl : j = l.length := by omega
      have hji : ¬ ((l.length : Int) < (l.length : Int)) := by omega
      rw [List.take_length] at ho hfl
      have HBW : Hid (Below w.heap.size w wr) := HB0.out.trans (HB.out.mono (Nat.le_succ _))
      by_cases hnil : l.filter (hasD o) = []
      · have HE : Hid (sortsD o l = []) := sortsD_nil hnil
        rw [hnil] at ho
        obtain ⟨A1, c1, rfl, _, _, hcm1, _, _⟩ := ho.form
        have HCM := Lib.hid hcm1
        clear hcm1
        have hcon := AnyF.slices_SortFunc_none Tryz.sortDatom A1 c1 (.func (.func 39) #[] #[.pointer (some ⟨w.heap.size, 0, none⟩)]) wr
        change Calls Tryz.prog 38 #[.slice A1 0 c1, _] _ _ at hcon
        have HCON := Lib.hid hcon
        clear hcon ho hnil hfl
        simp only [List.length_nil]
        go_wp2_with fail
        refine HCON.out.mono ?_
        rintro e w2 ⟨rfl, rfl⟩
        go_wp2_with fail
        refine (compD_nil A1 c1 _).mono ?_
        rintro e w3 ⟨rfl, rfl⟩
        go_wp2
        go_ret
        exact ⟨A1, c1, by rw [HE.out]; rfl, by rw [HE.out]; exact fun h => absurd rfl h, HBW.out, by rw [HE.out]; exact Nat.zero_le _, HCM.out⟩
      · obtain ⟨hio, hse⟩ := sortsD_is hnil
        have h0 : 0 < (l.filter (hasD o)).length := List.length_pos_iff.2 hnil
        obtain ⟨L, hL⟩ : ∃ L, l.filter (hasD o) = L := ⟨_, rfl⟩
        rw [hL] at ho hfl h0 hse
        have HSE := Lib.hid hse
        have HIO := Lib.hid hio
        rcases ho.2 with ⟨_, h1⟩ | ⟨g, cap, cur, rfl, hgB, hgb, hlc, hcm, _⟩
        · omega
        have hr : wr.ownsRow (w.heap.size + 1) 44 9 (.slice (some ⟨g, 0, none⟩) L.length cap) L.length (L.flatMap cellsD) := ho
        have hg1 : g < wr.heap.size := (Array.getElem?_eq_some_iff.1 hgb).1
        have HH := Lib.hid (holds_ownG cellsD_len (by decide) hr)
        have HLC := Lib.hid hlc
        have HCM := Lib.hid hcm
        have HG := Lib.hid (show w.heap.size + 1 ≤ g ∧ g < wr.heap.size from ⟨hgB, hg1⟩)
        have HLL := Lib.hid (show 0 < L.length ∧ L.length ≤ 2000000000000 from ⟨h0, by omega⟩)
        have hcb : wr.cell? ⟨w.heap.size, 0, none⟩ = some (.int .i64 o) := (HB.out.cell (p := ⟨w.heap.size, 0, none⟩) (Nat.lt_succ_self _)).trans HOB.out
        have HSC := Lib.hid (sortD_any o hio w.heap.size g cap L wr (w.heap.size + 1) hr hg1 (by omega) (by omega) hcb)
        clear ho hr hlc hcm hgB hg1 hgb h0 hse hio hnil hcb hL hfl
        go_wp2_with fail
        refine HSC.out.mono ?_
        rintro e w2 ⟨rfl, n, os, hw2⟩
        have HB2 : Hid (Below w.heap.size w w2) := by rw [hw2]; exact HBW.out.trans (sort_belowG (by have := HG.out.1; omega) HG.out.2)
        have hrl : (riseD o L).length = L.length := riseG_len L
        have HH2 : Hid (RowD w2 g 0 (riseD o L).toArray) := by
          show RowD _ _ _ _
          rw [hw2]; exact rowD_of (sort_holdsG HG.out.2 HH.out (by simp [hrl]))
        have HS2 : Hid (wr.heap.size ≤ w2.heap.size) := by
          show _ ≤ _
          rw [hw2]; exact (sort_belowG (n0 := 0) (Nat.zero_le _) HG.out.2).size
        have HRL := Lib.hid hrl
        clear hw2 hrl HSC
        have hcon := compD_any g 0 cap (riseD o L).toArray w2 w.heap.size (by have := HG.out.1; omega) (Nat.lt_of_lt_of_le HG.out.2 HS2.out) HH2.out (by have := HLL.out.2; simp [HRL.out]; omega) (by simp [HRL.out]; exact HLC.out)
        rw [show (riseD o L).toArray.size = L.length from by simp [HRL.out]] at hcon
        have HCON := Lib.hid hcon
        clear hcon
        go_wp2_with fail
        refine HCON.out.mono ?_
        rintro e w3 ⟨r, hr, rfl, hsl, hb3, hsz3⟩
        have hr2 : r = sortsD o l := by
          rw [HSE.out]
          exact hr.trans (compAll (ordD_is HIO.out) (riseD o L).toArray)
        have HF : Hid (SlD w3 w3.heap.size (some ⟨g, 0, none⟩) (sortsD o l) ∧ Below w.heap.size w w3 ∧ (sortsD o l).length ≤ cap ∧ cap ≤ maxLen) := by
          rw [← hr2]
          refine ⟨hsl.more hsz3, HB2.out.trans hb3, ?_, HCM.out⟩
          rw [hr]
          refine Nat.le_trans (compUp_len _ _) ?_
          rw [List.size_toArray, HRL.out]
          exact HLC.out
        rw [hr2]
        clear hr hr2 hsl hb3 hsz3
        go_wp2
        go_ret
        exact ⟨_, _, rfl, HF.out⟩
theorem sortedD_any (o : Int) (A : Option Addr) (c : Nat) (l : List Dat) (w : World) (hs : SlD w w.heap.size A l) (hl : l.length * 80 ≤ 140737488355328) :
    Calls Tryz.prog 17 #[.int .i64 o, .slice A l.length c] w fun e w' => ∃ A' c', e = .returned (.slice A' (sortsD o l).length c') ∧ SlD w' w'.heap.size A' (sortsD o l) ∧ Below w.heap.size w w' :=
  (sortedD_cap o A c l w hs hl).mono fun _ _ ⟨A', c', h1, h2, h3, _⟩ => ⟨A', c', h1, h2, h3⟩
end Go.Proofs.YthdjlaombbeagaaGreat

/-
  CONTRACTS: ofDatom, Fold's closures, ContainsFunc over datoms, runs.
-/
namespace Go.Proofs.YthdjlaombbeagaaGreat
open Go.RowKit Go.Shelf

/-- a triple as a value -/
def triV (d : Dat) : Value := .agg #[.int .i64 d.e, .int .i64 d.a, .int .i64 d.k, .int .i64 d.m, .string d.s]
set_option maxRecDepth 100000 in
theorem ofDatom_any (d : Dat) (w : World) : Calls Tryz.prog 18 #[.agg #[.int .i64 d.e, .int .i64 d.a, .int .i64 d.k, .int .i64 d.m, .string d.s, .int .i64 d.t, .bool d.add, .int .i64 d.fr, .int .i64 d.til]] w fun e w' => e = .returned (triV d) ∧ Below w.heap.size w w' := by
  go_enter Tryz.func18, Tryz.ntmps18
  go_wp2
  refine bodyPost_ret (v := triV d) ?_ rfl ⟨rfl, ?_⟩
  · rw [results_cell_only rfl]; unfold triV; go_simp
  · exact ((Below.refl _ w).alloc (Nat.le_refl _) _).alloc (by simp) _
set_option maxRecDepth 100000 in
theorem fold2_any (d : Dat) (w : World) : Calls Tryz.prog 20 #[.agg #[.int .i64 d.e, .int .i64 d.a, .int .i64 d.k, .int .i64 d.m, .string d.s, .int .i64 d.t, .bool d.add, .int .i64 d.fr, .int .i64 d.til]] w fun e w' => e = .returned (.int .i64 d.t) ∧ Below w.heap.size w w' := by
  go_enter Tryz.func20, Tryz.ntmps20
  go_wp2
  go_ret
  exact ⟨rfl, (Below.refl _ w).alloc (Nat.le_refl _) _⟩
set_option maxRecDepth 100000 in
theorem fold1_any (d : Dat) (v : Bool) (hv : mayD d = v) (w : World) (hs : d.s.size ≤ maxLen) : Calls Tryz.prog 14 #[.agg #[.int .i64 d.e, .int .i64 d.a, .int .i64 d.k, .int .i64 d.m, .string d.s, .int .i64 d.t, .bool d.add, .int .i64 d.fr, .int .i64 d.til]] w fun e w' => e = .returned (.bool (!v)) ∧ Below w.heap.size w w' := by
  have HC := Lib.hid (fun w => dCheck_any d w hs)
  rw [hv] at HC
  clear hs hv
  go_enter Tryz.func14, Tryz.ntmps14
  go_wp2_with fail
  refine (HC.out _).mono ?_
  rintro e w1 ⟨rfl, hb⟩
  have HB := Lib.hid (((Below.refl _ w).alloc (Nat.le_refl _) (.cells #[.int .i64 d.e, .int .i64 d.a, .int .i64 d.k, .int .i64 d.m, .string d.s, .int .i64 d.t, .bool d.add, .int .i64 d.fr, .int .i64 d.til] 44)).trans (hb.mono (by simp)))
  clear hb HC
  cases v
  · go_wp2
    go_ret
    exact ⟨rfl, HB.out⟩
  · go_wp2
    go_ret
    exact ⟨rfl, HB.out⟩
def notMay (l : List Dat) : Bool := l.any fun d => !mayD d
set_option maxRecDepth 100000 in
set_option maxHeartbeats 1000000 in
theorem indexFD_any (A : Option Addr) (c : Nat) (l : List Dat) (w : World) (hs : SlD w w.heap.size A l) (hl : l.length * 80 ≤ 140737488355328) (hz : ∀ d ∈ l, d.s.size ≤ maxLen) :
    Calls Tryz.prog 34 #[.slice A l.length c, .func (.func 14) #[] #[]] w fun e w' => (∃ k : Int, e = .returned (.int .i64 k) ∧ (notMay l = true ∧ 0 ≤ k ∨ notMay l = false ∧ k = -1)) ∧ Below w.heap.size w w' := by
  have HS := Lib.hid hs
  have HZ := Lib.hid hz
  clear hs hz
  go_enter Tryz.func34, Tryz.ntmps34
  go_wp2
  go_loopg [5, 8] l.length (fun g _ y wr => ∃ j : Nat, y = .int .i64 j ∧ j + g = l.length ∧ Hid ((l.take j).any (fun d => !mayD d) = false) ∧ Hid (Below w.heap.size w wr))
  case atStart => exact ⟨0, rfl, by omega, rfl, Below.refl _ _⟩
  case round =>
    obtain ⟨j, rfl, hj, HN, HB⟩ := hrel
    cases gk with
    | zero =>
      have hjz : ¬ ((j : Int) < (l.length : Int)) := by omega
      have HE : Hid (notMay l = false) := by
        show _ = _
        unfold notMay
        have := HN.out
        rwa [List.take_of_length_le (by omega)] at this
      go_wp2
      go_ret
      exact ⟨⟨_, rfl, .inr ⟨HE.out, rfl⟩⟩, HB.out⟩
    | succ g =>
      have hjz : (j : Int) < (l.length : Int) := by omega
      have hjn : j < l.length := by omega
      obtain ⟨b, o, rfl, _, hp⟩ := (HS.out.next HB.out (Nat.le_refl _)).at_ hjn
      have hts := List.take_succ_eq_append_getElem hjn
      obtain ⟨d, hse⟩ : ∃ s, l[j] = s := ⟨_, rfl⟩
      have hmem : d ∈ l := by rw [← hse]; exact List.getElem_mem hjn
      rw [hse] at hp hts
      have c0 := hp.c0
      have c1 := hp.c1
      have c2 := hp.c2
      have c3 := hp.c3
      have c4 := hp.c4
      have c5 := hp.c5
      have c6 := hp.c6
      have c7 := hp.c7
      have c8 := hp.c8
      have HTS := Lib.hid hts
      have HM := Lib.hid hmem
      have hbz := HB.out.size
      clear hp hse hts hmem
      cases hv : mayD d
      · have HW := Lib.hid (fun X => fold1_any d false hv X (HZ.out d HM.out))
        have HE : Hid (notMay l = true) := by show _ = _; unfold notMay; rw [List.any_eq_true]; exact ⟨_, HM.out, by simp [hv]⟩
        clear hv
        go_wp2_with fail
        refine (HW.out _).mono ?_
        rintro e w9 ⟨rfl, hb9⟩
        have HB9 := Lib.hid (HB.out.trans (hb9.mono hbz))
        clear hb9 c0 c1 c2 c3 c4 c5 c6 c7 c8
        go_wp2
        go_ret
        exact ⟨⟨_, rfl, .inl ⟨HE.out, by omega⟩⟩, HB9.out⟩
      · have HW := Lib.hid (fun X => fold1_any d true hv X (HZ.out d HM.out))
        have HST : Hid ((l.take (j + 1)).any (fun d => !mayD d) = false) := by show _ = _; rw [HTS.out, List.any_append, HN.out]; simp [hv]
        clear hv
        go_wp2_with fail
        refine (HW.out _).mono ?_
        rintro e w9 ⟨rfl, hb9⟩
        have HB9 := Lib.hid (HB.out.trans (hb9.mono hbz))
        clear hb9 c0 c1 c2 c3 c4 c5 c6 c7 c8
        go_wp2
        go_roundg g
        case measure => omega
        case rel => exact ⟨j + 1, by go_num, by omega, HST.out, HB9.out⟩

set_option maxHeartbeats 1000000 in
theorem containsFD_any (A : Option Addr) (c : Nat) (l : List Dat) (w : World) (hs : SlD w w.heap.size A l) (hl : l.length * 80 ≤ 140737488355328) (hz : ∀ d ∈ l, d.s.size ≤ maxLen) :
    Calls Tryz.prog 13 #[.slice A l.length c, .func (.func 14) #[] #[]] w fun e w' => e = .returned (.bool (notMay l)) ∧ Below w.heap.size w w' := by
  have HC := Lib.hid (indexFD_any A c l w hs hl hz)
  clear hs hz
  go_enter Tryz.func13, Tryz.ntmps13
  go_wp2_with fail
  refine HC.out.mono ?_
  rintro e w' ⟨⟨k, rfl, h⟩, hb⟩
  have HB := Lib.hid hb
  rcases h with ⟨h1, h2⟩ | ⟨h1, rfl⟩
  · have HE := Lib.hid h1
    have hd : decide ((0 : Int) ≤ k) = true := decide_eq_true h2
    clear h1 hb
    go_wp2
    go_ret
    exact ⟨by rw [HE.out]; rfl, HB.out⟩
  · have HE := Lib.hid h1
    clear h1 hb
    go_wp2
    go_ret
    exact ⟨by rw [HE.out]; rfl, HB.out⟩


/-- the world with the iterator's two boxes -/
def boxRT (w : World) (A : Option Addr) (n c : Nat) : World := (w.alloc (.cells #[.slice A n c] 22)).alloc (.cells #[.func (.func 18) #[] #[]] 54)
set_option maxRecDepth 100000 in
theorem runsT_any (A : Option Addr) (n c : Nat) (w : World) : Calls Tryz.prog 16 #[.slice A n c, .func (.func 18) #[] #[]] w fun e w' =>
    e = .returned (.func (.func 36) #[] #[.pointer (some ⟨w.heap.size, 0, none⟩), .pointer (some ⟨w.heap.size + 1, 0, none⟩)]) ∧ w' = boxRT w A n c := by
  go_enter Tryz.func16, Tryz.ntmps16
  go_wp2
  go_ret
  exact ⟨rfl, rfl⟩

/-- the world with the iterator's two boxes -/
def boxRI (w : World) (A : Option Addr) (n c : Nat) : World := (w.alloc (.cells #[.slice A n c] 22)).alloc (.cells #[.func (.func 20) #[] #[]] 59)
set_option maxRecDepth 100000 in
theorem runsI_any (A : Option Addr) (n c : Nat) (w : World) : Calls Tryz.prog 19 #[.slice A n c, .func (.func 20) #[] #[]] w fun e w' =>
    e = .returned (.func (.func 42) #[] #[.pointer (some ⟨w.heap.size, 0, none⟩), .pointer (some ⟨w.heap.size + 1, 0, none⟩)]) ∧ w' = boxRI w A n c := by
  go_enter Tryz.func19, Tryz.ntmps19
  go_wp2
  go_ret
  exact ⟨rfl, rfl⟩
end Go.Proofs.YthdjlaombbeagaaGreat

/-
  FACTS on stretches of a slice: where each stands; triples compared.
-/
namespace Go.Proofs.YthdjlaombbeagaaGreat
open Go.RowKit Go.Shelf

/-- where the rest stands behind some stretches, and its capacity -/
def stR : Option Addr → Nat → List (List Dat) → Option Addr × Nat
  | A, c, [] => (A, c)
  | A, c, r :: q => stR (cutD A c r.length) (c - r.length) q
theorem stR_snoc (r : List Dat) : ∀ (pre : List (List Dat)) (A : Option Addr) (c : Nat), stR A c (pre ++ [r]) = (cutD (stR A c pre).1 (stR A c pre).2 r.length, (stR A c pre).2 - r.length)
  | [], _, _ => rfl
  | _ :: pre, _, _ => stR_snoc r pre _ _
theorem stR_cap : ∀ (pre : List (List Dat)) (A : Option Addr) (c : Nat), (stR A c pre).2 = c - pre.flatten.length
  | [], A, c => by simp [stR]
  | q :: pre, A, c => by
    show (stR (cutD A c q.length) (c - q.length) pre).2 = _
    rw [stR_cap pre, List.flatten_cons, List.length_append]; omega
theorem stR_sl {W : World} {B : Nat} : ∀ (pre : List (List Dat)) {A : Option Addr} {c : Nat} {l : List Dat}, SlD W B A l → l.length ≤ c → pre.flatten.length ≤ l.length → SlD W B (stR A c pre).1 (l.drop pre.flatten.length)
  | [], _, _, _, h, _, _ => by simpa [stR] using h
  | q :: pre, A, c, l, h, hlc, hp => by
    rw [List.flatten_cons, List.length_append] at hp
    have := stR_sl pre (c := c - q.length) (h.drop q.length hlc) (by rw [List.length_drop]; omega) (by rw [List.length_drop]; omega)
    rw [List.drop_drop] at this
    rw [List.flatten_cons, List.length_append]
    exact this
section
variable {κ : Type} [DecidableEq κ] (key : Dat → κ)
/-- what is left behind i stretches -/
def restR (l : List Dat) (i : Nat) : List Dat := l.drop ((runsL key l).take i).flatten.length
theorem runs_drop : ∀ (i : Nat) (l : List Dat), runsL key (restR key l i) = (runsL key l).drop i
  | 0, l => by unfold restR; simp
  | i + 1, l => by
    by_cases hl : l = []
    · subst hl; unfold restR; rw [runsL_nil]; simp [runsL_nil]
    · have h1 := runs_drop i (l.drop (runN key l))
      have hle := runN_le key l
      unfold restR at h1 ⊢
      rw [runsL_step key hl, List.take_succ_cons, List.flatten_cons, List.length_append, List.length_take, Nat.min_eq_left hle, List.drop_succ_cons, ← List.drop_drop]
      exact h1
theorem restR_next {l : List Dat} {i : Nat} (h : i < (runsL key l).length) : restR key l i ≠ [] ∧ (runsL key l)[i] = (restR key l i).take (runN key (restR key l i)) ∧ restR key l (i + 1) = (restR key l i).drop (runN key (restR key l i)) := by
  have h1 := runs_drop key i l
  have h2 : restR key l i ≠ [] := by
    intro e
    rw [e, runsL_nil] at h1
    have := congrArg List.length h1
    rw [List.length_drop] at this
    simp at this
    omega
  rw [runsL_step key h2, List.drop_eq_getElem_cons h] at h1
  injection h1 with h3 h4
  have hle := runN_le key (restR key l i)
  refine ⟨h2, h3.symm, ?_⟩
  have h5 : ((runsL key l)[i]).length = runN key (restR key l i) := by rw [← h3, List.length_take, Nat.min_eq_left hle]
  show l.drop ((runsL key l).take (i + 1)).flatten.length = _
  rw [List.take_succ_eq_append_getElem h, List.flatten_append, List.length_append, ← List.drop_drop]
  simp only [List.flatten_cons, List.flatten_nil, List.append_nil, h5]
  rfl
theorem runs_each {l : List Dat} {i : Nat} (h : i < (runsL key l).length) : ((runsL key l)[i]).length = runN key (restR key l i) := by
  obtain ⟨_, h2, _⟩ := restR_next key h
  rw [h2, List.length_take, Nat.min_eq_left (runN_le key _)]
theorem restR_end {l : List Dat} {i : Nat} (h : (runsL key l).length ≤ i) : restR key l i = [] := by
  have h1 := runs_drop key i l
  rw [List.drop_of_length_le h] at h1
  by_cases hn : restR key l i = []
  · exact hn
  · rw [runsL_step key hn] at h1; cases h1
theorem flat_le (l : List Dat) (i : Nat) : ((runsL key l).take i).flatten.length ≤ l.length := by
  conv => rhs; rw [← runsL_join key _ l (Nat.le_refl _), ← List.take_append_drop i (runsL key l), List.flatten_append, List.length_append]
  omega
theorem rest_len (l : List Dat) (i : Nat) : (restR key l i).length = l.length - ((runsL key l).take i).flatten.length := by unfold restR; rw [List.length_drop]
end
/-- all places -/
def allN (N : Nat) : List (Fin N) := List.finRange N
theorem allN_take {N i : Nat} (h : i < N) : (allN N).take (i + 1) = (allN N).take i ++ [⟨i, h⟩] := by
  rw [List.take_succ_eq_append_getElem (by unfold allN; simpa using h)]
  unfold allN
  simp
theorem allN_len (N : Nat) : (allN N).length = N := by unfold allN; simp
theorem eqTri (x y : Dat) (w : World) : (binOp .eql 52 (triV x) (triV y)).run Tryz.prog w = .ok (.bool (decide (triD x = triD y))) w := by
  have u2 := Tryz.underlying2
  have a2 := Tryz.isAgg2
  have aV := Tryz.isAgg42
  have hS : Tryz.prog.underlying 52 = some (.struct (Tryz.prog.fieldsOf 52)) := by kernel_rfl
  have hp : Tryz.prog.stoodInHeld 52 = false := by kernel_rfl
  have hV := fun w => eqInV9 x.k x.m x.s y.k y.m y.s w
  have hd : decide (triD x = triD y) = ((x.e == y.e) && ((x.a == y.a) && ((x.k == y.k) && ((x.m == y.m) && (x.s.toList == y.s.toList))))) := by
    rw [Bool.eq_iff_iff]
    simp only [decide_eq_true_eq, Bool.and_eq_true, beq_iff_eq, triD, Prod.mk.injEq]
    constructor
    · rintro ⟨h1, h2, h3, h4, h5⟩
      exact ⟨h1, h2, h3, h4, by rw [h5]⟩
    · rintro ⟨h1, h2, h3, h4, h5⟩
      refine ⟨h1, h2, h3, h4, ?_⟩
      rw [ByteArray.toList_eq, ByteArray.toList_eq] at h5
      cases hx : x.s with
      | mk l =>
        cases hy : y.s with
        | mk l' =>
          rw [hx, hy] at h5
          cases l
          cases l'
          simpa using h5
  unfold triV
  rw [run_eql_struct, hd, show (10000 : Nat) = 9999 + 1 from rfl, run_equalIn_agg w 9999 52 _ _ hS hp]
  simp only [Program.fieldsOf, Tryz.underlying52]
  obtain ⟨b1, h1⟩ : ∃ b, (x.e == y.e) = b := ⟨_, rfl⟩
  obtain ⟨b2, h2⟩ : ∃ b, (x.a == y.a) = b := ⟨_, rfl⟩
  obtain ⟨b3, h3⟩ : ∃ b, ((x.k == y.k) && ((x.m == y.m) && (x.s.toList == y.s.toList))) = b := ⟨_, rfl⟩
  rw [h3] at hV
  rw [h1, h2, h3]
  clear hd h3
  cases b1
  · go_simp
  cases b2
  · go_simp
  cases b3
  · go_simp
  · go_simp
end Go.Proofs.YthdjlaombbeagaaGreat

/-
  CONTRACTS: the iterators of runs, at triples and at transactions.
-/
namespace Go.Proofs.YthdjlaombbeagaaGreat
open Go.RowKit Go.Shelf
attribute [local go_sem] Oper.semAt_some

/-- the data lie, and the key's box -/
def KpR (B : Nat) (A : Option Addr) (l : List Dat) (Bk : Nat) (t : TypeId) (fv : Value) (X Y : World) : Prop := (SlD X B A l → SlD Y B A l) ∧ (Boxed X Bk t fv → Boxed Y Bk t fv) ∧ X.heap.size ≤ Y.heap.size
theorem KpR.trans {B : Nat} {A : Option Addr} {l : List Dat} {Bk : Nat} {t : TypeId} {fv : Value} {X Y Z : World} (h : KpR B A l Bk t fv X Y) (k : KpR B A l Bk t fv Y Z) : KpR B A l Bk t fv X Z := ⟨fun x => k.1 (h.1 x), fun x => k.2.1 (h.2.1 x), Nat.le_trans h.2.2 k.2.2⟩
theorem kpR_below {B : Nat} {A : Option Addr} {l : List Dat} {Bk : Nat} {t : TypeId} {fv : Value} {X Y : World} (hb : Below X.heap.size X Y) (hB : B ≤ X.heap.size) : KpR B A l Bk t fv X Y := ⟨fun h => h.next hb hB, fun h => (hb.block Bk h.lt).trans h, hb.size⟩
/-- how long a slice is -/
def lenV : Value → Nat
  | .slice _ n _ => n
  | _ => 0
/-- what stands while a stretch is measured: the datoms, the key's box -/
def RunS (w0 : World) (B : Nat) (A : Option Addr) (l : List Dat) (Bk : Nat) (t : TypeId) (fv : Value) (W : World) : Prop := SlD W B A l ∧ Boxed W Bk t fv ∧ B ≤ w0.heap.size ∧ Bk < w0.heap.size ∧ Below w0.heap.size w0 W
theorem RunS.next {w0 W W' : World} {B : Nat} {A : Option Addr} {l : List Dat} {Bk : Nat} {t : TypeId} {fv : Value} (h : RunS w0 B A l Bk t fv W) (hb : Below W.heap.size W W') : RunS w0 B A l Bk t fv W' := by
  obtain ⟨h1, h2, h3, h4, h5⟩ := h
  have := h5.size
  exact ⟨h1.next hb (by omega), (hb.block Bk (by omega)).trans h2, h3, h4, h5.trans (hb.mono h5.size)⟩
theorem RunS.far {w0 W W' : World} {B : Nat} {A : Option Addr} {l : List Dat} {Bk : Nat} {t : TypeId} {fv : Value} (h : RunS w0 B A l Bk t fv W) (hb : Below w0.heap.size W W') : RunS w0 B A l Bk t fv W' := by
  obtain ⟨h1, h2, h3, h4, h5⟩ := h
  exact ⟨h1.next hb h3, (hb.block Bk h4).trans h2, h3, h4, h5.trans hb⟩
/-- a key in its box -/
def KeyAt (W : World) (bk : Nat) (x : Dat) : Prop := W.heap[bk]? = some (.cells #[.int .i64 x.e, .int .i64 x.a, .int .i64 x.k, .int .i64 x.m, .string x.s] 52 (0, 0))
theorem KeyAt.cell {W : World} {bk : Nat} {x : Dat} (h : KeyAt W bk x) (j : Nat) : W.cell? ⟨bk, j, none⟩ = (#[Value.int .i64 x.e, .int .i64 x.a, .int .i64 x.k, .int .i64 x.m, .string x.s])[j]? := by unfold KeyAt at h; simp [World.cell?, h]
theorem KeyAt.lt {W : World} {bk : Nat} {x : Dat} (h : KeyAt W bk x) : bk < W.heap.size := (Array.getElem?_eq_some_iff.1 h).1
theorem KeyAt.next {W W' : World} {bk : Nat} {x : Dat} (h : KeyAt W bk x) (hb : Below W.heap.size W W') : KeyAt W' bk x := (hb.block bk h.lt).trans h
theorem RunS.drew {w0 W : World} {B : Nat} {A : Option Addr} {l : List Dat} {Bk : Nat} {t : TypeId} {fv : Value} (h : RunS w0 B A l Bk t fv W) : RunS w0 B A l Bk t fv W.drew := h.next (below_ind (Below.refl _ W) 1)

/-- what the iterator hands on: a stretch's key, and where it stands -/
def headD (r : List Dat) : Dat := r.headD ⟨0, 0, 0, 0, ⟨#[]⟩, 0, false, 0, 0⟩
theorem headD_take {R : List Dat} {n : Nat} (h : 0 < R.length) (hn : 1 ≤ n) : headD (R.take n) = R[0] := by
  cases R with
  | nil => simp at h
  | cons x r =>
    obtain ⟨k, rfl⟩ : ∃ k, n = k + 1 := ⟨n - 1, by omega⟩
    rfl
def encI (l : List Dat) (A : Option Addr) (c : Nat) (x : Fin (runsL (fun d : Dat => d.t) l).length) : Array Value :=
  #[.int .i64 (headD (runsL (fun d : Dat => d.t) l)[x.val]).t, .slice (stR A c ((runsL (fun d : Dat => d.t) l).take x.val)).1 (runsL (fun d : Dat => d.t) l)[x.val].length (stR A c ((runsL (fun d : Dat => d.t) l).take x.val)).2]
def encT (l : List Dat) (A : Option Addr) (c : Nat) (x : Fin (runsL triD l).length) : Array Value :=
  #[triV (headD (runsL triD l)[x.val]), .slice (stR A c ((runsL triD l).take x.val)).1 (runsL triD l)[x.val].length (stR A c ((runsL triD l).take x.val)).2]

/-- One round of the loop that is handed stretches. -/
def HandsRI (l : List Dat) (A : Option Addr) (c : Nat) (B Bk lp N : Nat) (J Jx : List (Fin (runsL (fun d : Dat => d.t) l).length) → World → Prop) : Prop :=
  ∀ m pre (x : Fin (runsL (fun d : Dat => d.t) l).length) W, J pre W → pre.length < N → YieldAt Fence.wide m Tryz.prog lp (encI l A c x) W fun e W' =>
    (e = .returned (.bool true) ∧ J (pre ++ [x]) W' ∧ KpR B A l Bk 59 (.func (.func 20) #[] #[]) W W') ∨ (e = .returned (.bool false) ∧ Jx (pre ++ [x]) W')
set_option maxRecDepth 100000 in
set_option maxHeartbeats 4000000 in
theorem runI_in (lp B Bl Bk C : Nat) (A : Option Addr) (c : Nat) (l : List Dat) (J Jx : List (Fin (runsL (fun d : Dat => d.t) l).length) → World → Prop) (hA : AbidesFrom C J) (hY : HandsRI l A c B Bk lp (runsL (fun d : Dat => d.t) l).length J Jx) (n : Nat)
    (W : World) (hBW : B ≤ W.heap.size) (hlc : l.length ≤ c) (_hcm : c ≤ maxLen) (hl : l.length ≤ 100000) (hs : SlD W B A l) (hb : W.cell? ⟨Bl, 0, none⟩ = some (.slice A l.length c)) (hk : Boxed W Bk 59 (.func (.func 20) #[] #[])) (hJ : J [] W) :
    CallsIn Fence.wide n Tryz.prog 42 #[.func (.yield lp) #[] #[], .pointer (some ⟨Bl, 0, none⟩), .pointer (some ⟨Bk, 0, none⟩)] W fun e W' =>
      (∃ v, e = .returned v) ∧ (J (allN _) W' ∨ ∃ q, q <+: allN _ ∧ Jx q W') := by
  refine callsIn_of_wp Tryz.func42 rfl trivial ?_ rfl
  simp only [Tryz.ntmps42, List.size_toArray, List.length_cons, List.length_nil, Nat.reduceAdd, Nat.reduceSub, Array.replicate_succ, Array.replicate_zero, List.push_toArray, List.append_toArray, List.nil_append, List.cons_append]
  have HS := Lib.hid hs
  have HK := Lib.hid hk
  have HKL := Lib.hid hk.lt
  have HR0 : restR (fun d : Dat => d.t) l 0 = l := by unfold restR; simp
  have HST0 : stR A c [] = (A, c) := rfl
  clear hs hk
  gi_wp2
  clear hb
  gi_loopw [4, 5, 6] (fun x _ _ wr => ∃ i : Nat, x = .slice (stR A c ((runsL (fun d : Dat => d.t) l).take i)).1 (restR (fun d : Dat => d.t) l i).length (stR A c ((runsL (fun d : Dat => d.t) l).take i)).2 ∧ i ≤ (runsL (fun d : Dat => d.t) l).length ∧ J ((allN _).take i) wr ∧ Hid (KpR B A l Bk 59 (.func (.func 20) #[] #[]) W wr) ) (fun x _ _ _ => lenV x)
  case atStart => exact ⟨0, by simp [HR0, stR], Nat.zero_le _, by rw [List.take_zero]; exact hJ, ⟨fun x => x, fun x => x, Nat.le_refl _⟩⟩
  case round =>
    obtain ⟨w1, rfl⟩ : ∃ w1, w1 = wr := ⟨wr, rfl⟩
    obtain ⟨i, rfl, hi, hJk, HKP⟩ := hrel
    have HSZ := Lib.hid HKP.out.2.2
    clear hJ HR0 HST0
    by_cases hil : i < (runsL (fun d : Dat => d.t) l).length
    · obtain ⟨hne, hgi, hnx⟩ := restR_next (fun d : Dat => d.t) hil
      have hlen := runs_each (fun d : Dat => d.t) hil
      have hpos := List.length_pos_iff.2 hne
      have hrl := rest_len (fun d : Dat => d.t) l i
      have hfl := flat_le (fun d : Dat => d.t) l i
      have hrs : SlD w1 B (stR A c ((runsL (fun d : Dat => d.t) l).take i)).1 (restR (fun d : Dat => d.t) l i) := stR_sl ((runsL (fun d : Dat => d.t) l).take i) (HKP.out.1 HS.out) hlc hfl
      have hcap := stR_cap ((runsL (fun d : Dat => d.t) l).take i) A c
      have hsn := stR_snoc (runsL (fun d : Dat => d.t) l)[i] ((runsL (fun d : Dat => d.t) l).take i) A c
      rw [← List.take_succ_eq_append_getElem hil] at hsn
      obtain ⟨A1, hA1⟩ : ∃ A1, (stR A c ((runsL (fun d : Dat => d.t) l).take i)).1 = A1 := ⟨_, rfl⟩
      obtain ⟨c1, hc1⟩ : ∃ c1, (stR A c ((runsL (fun d : Dat => d.t) l).take i)).2 = c1 := ⟨_, rfl⟩
      obtain ⟨R, hR⟩ : ∃ R, restR (fun d : Dat => d.t) l i = R := ⟨_, rfl⟩
      have hpre : ((allN (runsL (fun d : Dat => d.t) l).length).take i).length < (runsL (fun d : Dat => d.t) l).length := by rw [List.length_take, allN_len]; omega
      rw [hR, hA1] at hrs
      rw [hc1] at hcap
      rw [hR] at hne hgi hlen hrl hnx
      have hn1 := runN_pos (fun d : Dat => d.t) hne
      have hnR := runN_le (fun d : Dat => d.t) R
      rw [hA1, hc1, hR]
      have hR0 : 0 < R.length := List.length_pos_iff.2 hne
      obtain ⟨x, hx⟩ : ∃ x, R[0] = x := ⟨_, rfl⟩
      have HENC : Hid (encI l A c ⟨i, hil⟩ = #[.int .i64 x.t, .slice A1 (runN (fun d : Dat => d.t) R) c1]) := by
        show _ = _
        unfold encI
        simp only [hA1, hc1, hlen]
        rw [show headD (runsL (fun d : Dat => d.t) l)[i] = x by
          rw [hgi, headD_take hR0 hn1, hx]]
      have HNX : Hid (stR A c ((runsL (fun d : Dat => d.t) l).take (i + 1)) = (cutD A1 c1 (runN (fun d : Dat => d.t) R), c1 - runN (fun d : Dat => d.t) R) ∧ restR (fun d : Dat => d.t) l (i + 1) = R.drop (runN (fun d : Dat => d.t) R)) := ⟨by rw [hsn, hA1, hc1, hlen], hnx⟩
      have HJK := Lib.hid hJk
      have HTK := Lib.hid (allN_take hil)
      have HPR := Lib.hid (List.take_prefix (i + 1) (allN (runsL (fun d : Dat => d.t) l).length))
      have hlc1 : R.length ≤ c1 := by omega
      have hxz : R.length ≤ 100000 := by omega
      have HKW := Lib.hid (HKP.out.2.1 HK.out)
      obtain ⟨b, o, rfl, hbB, hat⟩ := hrs hne
      have HSR : Hid (SlD w1 B (some ⟨b, o, none⟩) R) := fun _ => ⟨b, o, rfl, hbB, hat⟩
      have hzz := HSZ.out
      have hkl := HKL.out
      have HRS : Hid (RunS w1 B (some ⟨b, o, none⟩) R Bk 59 (.func (.func 20) #[] #[]) w1) := ⟨HSR.out, HKW.out, by omega, by omega, Below.refl _ _⟩
      have h0l : (0 : Int) < (R.length : Int) := by omega
      have HX := Lib.hid hx
      clear hne hgi hlen hpos hrl hfl hrs hcap hsn hnx hA1 hc1 hR hJk hx hat
      gi_upto_region 2 with fail
      refine wpIn_wide.2 ?_
      refine wp_region_held_drew (S := RunS w1 B (some ⟨b, o, none⟩) R Bk 59 (.func (.func 20) #[] #[])) (by kernel_rfl) HRS.out.drew (fun hHeld => ?_)
      refine takeQ 0 11 ((.func (.func 20) #[] #[])) ?_ (hy := by (intro _w hSw; have q0 := hSw.2.1.cell; clear hSw; go_simp))
      simp only [Act.put, List.setIfInBounds_toArray, List.set_cons_zero, List.set_cons_succ]
      refine takeQ 1 12 ((.slice (some ⟨b, o, none⟩) R.length c1)) ?_
      simp only [Act.put, List.setIfInBounds_toArray, List.set_cons_zero, List.set_cons_succ]
      refine takeQ 2 13 ((.pointer (some ⟨b, o, none⟩))) ?_
      simp only [Act.put, List.setIfInBounds_toArray, List.set_cons_zero, List.set_cons_succ]
      refine takeQ 3 14 ((.agg #[.int .i64 x.e, .int .i64 x.a, .int .i64 x.k, .int .i64 x.m, .string x.s, .int .i64 x.t, .bool x.add, .int .i64 x.fr, .int .i64 x.til])) ?_ (hy := by (intro _w hSw; obtain ⟨b', o', e', _, hp⟩ := hSw.1.at_ (j := 0) hR0; cases e'; rw [HX.out] at hp; simp only [Nat.zero_mul, Nat.add_zero] at hp; have q0 := hp.c0; have q1 := hp.c1; have q2 := hp.c2; have q3 := hp.c3; have q4 := hp.c4; have q5 := hp.c5; have q6 := hp.c6; have q7 := hp.c7; have q8 := hp.c8; clear hp; clear hSw; go_simp))
      simp only [Act.put, List.setIfInBounds_toArray, List.set_cons_zero, List.set_cons_succ]
      refine callV 4 rfl (by kernel_rfl) (by rfl) (fun K hK => ?_)
      go_simp
      go_at_call 20
      refine (fold2_any x _).mono ?_
      rintro e w3 ⟨rfl, hb3⟩
      have g3 := hHeld.next hb3
      refine hK.out _ _ g3 (fun hHeld3 => ?_)
      clear hK g3 K hHeld hb3
      try simp only [Act.put, List.setIfInBounds_toArray, List.set_cons_zero, List.set_cons_succ]
      refine takeQ 5 5 ((.int .i64 x.t)) ?_
      simp only [Act.put, List.setIfInBounds_toArray, List.set_cons_zero, List.set_cons_succ]
      refine takeQ 6 6 ((.int .i64 1)) ?_
      simp only [Act.put, List.setIfInBounds_toArray, List.set_cons_zero, List.set_cons_succ]
      refine wpAnyH_done (by kernel_rfl) ?_ _
      have HR3 := Lib.hid hHeld3
      clear hHeld3
      gi_wp2
      gi_loopw [6] (fun y wr => ∃ n : Nat, y = .int .i64 n ∧ n ≤ R.length ∧ 1 ≤ n ∧ Hid (∀ j (h : j < R.length), j < n → (fun d : Dat => d.t) R[j] = (fun d : Dat => d.t) R[0]) ∧ Hid (RunS w1 B (some ⟨b, o, none⟩) R Bk 59 (.func (.func 20) #[] #[]) wr)) (fun y _ => R.length - (intOf y).toNat)
      case atStart => exact ⟨1, rfl, by omega, Nat.le_refl _, (fun j h hj => by obtain rfl : j = 0 := (by omega); rfl), HR3.out⟩
      case round =>
        obtain ⟨n1, rfl, hn, hn1', HSM, HR1⟩ := hrel
        by_cases hnl : n1 = R.length
        · have hnz : ¬ ((n1 : Int) < (R.length : Int)) := by omega
          obtain rfl : n1 = R.length := by omega
          have HRN : Hid (runN (fun d : Dat => d.t) R = R.length) := runN_is (fun d : Dat => d.t) hR0 hn1' (by omega) HSM.out (fun h => by omega)
          gi_upto_region 3 with fail
          refine wpIn_wide.2 ?_
          refine wp_region_held_drew (S := RunS w1 B (some ⟨b, o, none⟩) R Bk 59 (.func (.func 20) #[] #[])) (by kernel_rfl) HR1.out.drew (fun hHeld => ?_)
          refine takeQ 0 16 ((.int .i64 R.length)) ?_
          simp only [Act.put, List.setIfInBounds_toArray, List.set_cons_zero, List.set_cons_succ]
          refine takeQ 1 17 ((.slice (some ⟨b, o, none⟩) R.length c1)) ?_
          simp only [Act.put, List.setIfInBounds_toArray, List.set_cons_zero, List.set_cons_succ]
          refine takeQ 2 18 ((.int .i64 R.length)) ?_
          simp only [Act.put, List.setIfInBounds_toArray, List.set_cons_zero, List.set_cons_succ]
          refine takeQ 3 19 ((.bool false)) ?_
          simp only [Act.put, List.setIfInBounds_toArray, List.set_cons_zero, List.set_cons_succ]
          refine takeQ 4 20 ((.bool false)) ?_
          simp only [Act.put, List.setIfInBounds_toArray, List.set_cons_zero, List.set_cons_succ]
          refine skipQ 5 21 ?_
          simp only [Act.put, List.setIfInBounds_toArray, List.set_cons_zero, List.set_cons_succ]
          refine skipQ 6 22 ?_
          simp only [Act.put, List.setIfInBounds_toArray, List.set_cons_zero, List.set_cons_succ]
          refine skipQ 7 23 ?_
          simp only [Act.put, List.setIfInBounds_toArray, List.set_cons_zero, List.set_cons_succ]
          refine skipQ 8 24 ?_
          simp only [Act.put, List.setIfInBounds_toArray, List.set_cons_zero, List.set_cons_succ]
          refine skipQ 9 25 ?_
          simp only [Act.put, List.setIfInBounds_toArray, List.set_cons_zero, List.set_cons_succ]
          refine skipQ 10 26 ?_
          simp only [Act.put, List.setIfInBounds_toArray, List.set_cons_zero, List.set_cons_succ]
          refine skipQ 11 27 ?_
          simp only [Act.put, List.setIfInBounds_toArray, List.set_cons_zero, List.set_cons_succ]
          refine skipQ 12 28 ?_
          simp only [Act.put, List.setIfInBounds_toArray, List.set_cons_zero, List.set_cons_succ]
          refine takeQ 13 29 ((.bool false)) ?_
          simp only [Act.put, List.setIfInBounds_toArray, List.set_cons_zero, List.set_cons_succ]
          refine wpAnyH_done (by kernel_rfl) ?_ _
          have HR4 := Lib.hid hHeld
          clear hHeld
          gi_upto_region 5 with fail
          have hJ4 := abides_to hA HJK.out HR4.out.2.2.2.2
          obtain ⟨fn, tmps, assign, body, hy, hR⟩ := hY (n - 1) _ ⟨i, hil⟩ _ hJ4 hpre
          rw [HENC.out, HRN.out] at hy
          have HK4 := Lib.hid (HKP.out.trans (kpR_below HR4.out.2.2.2.2 (by omega)))
          have HRN1 := Lib.hid (show 1 ≤ R.length ∧ R.length ≤ R.length from ⟨hn1', by omega⟩)
          have hsl := fun w => sliceD_to (some ⟨b, o, none⟩) R.length c1 R.length (by omega) w
          have hsl2 := fun w => sliceD_from (some ⟨b, o, none⟩) R.length c1 R.length (by omega) hlc1 w
          gi_wp2
          refine ⟨wide_deep _, ?_⟩
          refine hR.mono ?_
          rintro e W5 (⟨rfl, hJ5, hk5⟩ | ⟨rfl, hJx5⟩)
          · gi_wp2
            go_roundw
            case rel => exact ⟨i + 1, by rw [HNX.out.1, HNX.out.2, HRN.out, List.length_drop]; try simp, by omega, by rw [HTK.out]; exact hJ5, HK4.out.trans hk5⟩
            case measure => have := HRN1.out; simp [lenV]; omega
          · gi_wp2
            refine bodyPost_ret (results_none rfl _ _ _) rfl ?_
            exact ⟨⟨_, rfl⟩, .inr ⟨(allN _).take (i + 1), HPR.out, by rw [HTK.out]; exact hJx5⟩⟩
        · have hnz : (n1 : Int) < (R.length : Int) := by omega
          have hnn : n1 < R.length := by omega
          obtain ⟨y, hy⟩ : ∃ y, R[n1] = y := ⟨_, rfl⟩
          have HY1 := Lib.hid hy
          by_cases hky : y.t = x.t
          · have hkd : (y.t == x.t) = true := by rw [beq_iff_eq]; exact hky
            have HSM2 : Hid (∀ j (h : j < R.length), j < n1 + 1 → (fun d : Dat => d.t) R[j] = (fun d : Dat => d.t) R[0]) := fun j h hj => by
              by_cases h3 : j < n1
              · exact HSM.out j h h3
              · have : j = n1 := by omega
                subst this
                rw [HY1.out, HX.out]; exact hky
            clear hy hky
            gi_upto_region 3 with fail
            refine wpIn_wide.2 ?_
            refine wp_region_held_drew (S := RunS w1 B (some ⟨b, o, none⟩) R Bk 59 (.func (.func 20) #[] #[])) (by kernel_rfl) HR1.out.drew (fun hHeld => ?_)
            refine takeQ 0 16 ((.int .i64 n1)) ?_
            simp only [Act.put, List.setIfInBounds_toArray, List.set_cons_zero, List.set_cons_succ]
            refine takeQ 1 17 ((.slice (some ⟨b, o, none⟩) R.length c1)) ?_
            simp only [Act.put, List.setIfInBounds_toArray, List.set_cons_zero, List.set_cons_succ]
            refine takeQ 2 18 ((.int .i64 R.length)) ?_
            simp only [Act.put, List.setIfInBounds_toArray, List.set_cons_zero, List.set_cons_succ]
            refine takeQ 3 19 ((.bool true)) ?_
            simp only [Act.put, List.setIfInBounds_toArray, List.set_cons_zero, List.set_cons_succ]
            refine takeQ 4 20 ((.bool true)) ?_
            simp only [Act.put, List.setIfInBounds_toArray, List.set_cons_zero, List.set_cons_succ]
            refine takeQ 5 21 ((.func (.func 20) #[] #[])) ?_ (hy := by (intro _w hSw; have q0 := hSw.2.1.cell; clear hSw; go_simp))
            simp only [Act.put, List.setIfInBounds_toArray, List.set_cons_zero, List.set_cons_succ]
            refine takeQ 6 22 ((.slice (some ⟨b, o, none⟩) R.length c1)) ?_
            simp only [Act.put, List.setIfInBounds_toArray, List.set_cons_zero, List.set_cons_succ]
            refine takeQ 7 23 ((.int .i64 n1)) ?_
            simp only [Act.put, List.setIfInBounds_toArray, List.set_cons_zero, List.set_cons_succ]
            refine takeQ 8 24 ((.pointer (some ⟨b, o + n1 * 9, none⟩))) ?_
            simp only [Act.put, List.setIfInBounds_toArray, List.set_cons_zero, List.set_cons_succ]
            refine takeQ 9 25 ((.agg #[.int .i64 y.e, .int .i64 y.a, .int .i64 y.k, .int .i64 y.m, .string y.s, .int .i64 y.t, .bool y.add, .int .i64 y.fr, .int .i64 y.til])) ?_ (hy := by (intro _w hSw; obtain ⟨b', o', e', _, hp⟩ := hSw.1.at_ (j := n1) hnn; cases e'; rw [HY1.out] at hp; have q0 := hp.c0; have q1 := hp.c1; have q2 := hp.c2; have q3 := hp.c3; have q4 := hp.c4; have q5 := hp.c5; have q6 := hp.c6; have q7 := hp.c7; have q8 := hp.c8; clear hp; clear hSw; go_simp))
            simp only [Act.put, List.setIfInBounds_toArray, List.set_cons_zero, List.set_cons_succ]
            refine takeQ 11 27 ((.int .i64 x.t)) ?_
            simp only [Act.put, List.setIfInBounds_toArray, List.set_cons_zero, List.set_cons_succ]
            refine callV 10 rfl (by kernel_rfl) (by rfl) (fun K hK => ?_)
            go_simp
            go_at_call 20
            refine (fold2_any y _).mono ?_
            rintro e w3 ⟨rfl, hb3⟩
            have g3 := hHeld.next hb3
            refine hK.out _ _ g3 (fun hHeld3 => ?_)
            clear hK g3 K hHeld hb3
            try simp only [Act.put, List.setIfInBounds_toArray, List.set_cons_zero, List.set_cons_succ]
            refine takeQ 12 28 ((.bool true)) ?_
            simp only [Act.put, List.setIfInBounds_toArray, List.set_cons_zero, List.set_cons_succ]
            refine takeQ 13 29 ((.bool true)) ?_
            simp only [Act.put, List.setIfInBounds_toArray, List.set_cons_zero, List.set_cons_succ]
            refine wpAnyH_done (by kernel_rfl) ?_ _
            have HR4 := Lib.hid hHeld3
            clear hHeld3
            gi_wp2
            go_roundw
            case measure => simp [intOf]; omega
            case rel => exact ⟨n1 + 1, by go_num, by omega, by omega, HSM2.out, HR4.out⟩
          · have hkd : (y.t == x.t) = false := by rw [beq_eq_false_iff_ne]; exact hky
            have HRN : Hid (runN (fun d : Dat => d.t) R = n1) := runN_is (fun d : Dat => d.t) hR0 hn1' (by omega) HSM.out (fun h => by rw [HY1.out, HX.out]; exact hky)
            clear hy hky
            gi_upto_region 3 with fail
            refine wpIn_wide.2 ?_
            refine wp_region_held_drew (S := RunS w1 B (some ⟨b, o, none⟩) R Bk 59 (.func (.func 20) #[] #[])) (by kernel_rfl) HR1.out.drew (fun hHeld => ?_)
            refine takeQ 0 16 ((.int .i64 n1)) ?_
            simp only [Act.put, List.setIfInBounds_toArray, List.set_cons_zero, List.set_cons_succ]
            refine takeQ 1 17 ((.slice (some ⟨b, o, none⟩) R.length c1)) ?_
            simp only [Act.put, List.setIfInBounds_toArray, List.set_cons_zero, List.set_cons_succ]
            refine takeQ 2 18 ((.int .i64 R.length)) ?_
            simp only [Act.put, List.setIfInBounds_toArray, List.set_cons_zero, List.set_cons_succ]
            refine takeQ 3 19 ((.bool true)) ?_
            simp only [Act.put, List.setIfInBounds_toArray, List.set_cons_zero, List.set_cons_succ]
            refine takeQ 4 20 ((.bool true)) ?_
            simp only [Act.put, List.setIfInBounds_toArray, List.set_cons_zero, List.set_cons_succ]
            refine takeQ 5 21 ((.func (.func 20) #[] #[])) ?_ (hy := by (intro _w hSw; have q0 := hSw.2.1.cell; clear hSw; go_simp))
            simp only [Act.put, List.setIfInBounds_toArray, List.set_cons_zero, List.set_cons_succ]
            refine takeQ 6 22 ((.slice (some ⟨b, o, none⟩) R.length c1)) ?_
            simp only [Act.put, List.setIfInBounds_toArray, List.set_cons_zero, List.set_cons_succ]
            refine takeQ 7 23 ((.int .i64 n1)) ?_
            simp only [Act.put, List.setIfInBounds_toArray, List.set_cons_zero, List.set_cons_succ]
            refine takeQ 8 24 ((.pointer (some ⟨b, o + n1 * 9, none⟩))) ?_
            simp only [Act.put, List.setIfInBounds_toArray, List.set_cons_zero, List.set_cons_succ]
            refine takeQ 9 25 ((.agg #[.int .i64 y.e, .int .i64 y.a, .int .i64 y.k, .int .i64 y.m, .string y.s, .int .i64 y.t, .bool y.add, .int .i64 y.fr, .int .i64 y.til])) ?_ (hy := by (intro _w hSw; obtain ⟨b', o', e', _, hp⟩ := hSw.1.at_ (j := n1) hnn; cases e'; rw [HY1.out] at hp; have q0 := hp.c0; have q1 := hp.c1; have q2 := hp.c2; have q3 := hp.c3; have q4 := hp.c4; have q5 := hp.c5; have q6 := hp.c6; have q7 := hp.c7; have q8 := hp.c8; clear hp; clear hSw; go_simp))
            simp only [Act.put, List.setIfInBounds_toArray, List.set_cons_zero, List.set_cons_succ]
            refine takeQ 11 27 ((.int .i64 x.t)) ?_
            simp only [Act.put, List.setIfInBounds_toArray, List.set_cons_zero, List.set_cons_succ]
            refine callV 10 rfl (by kernel_rfl) (by rfl) (fun K hK => ?_)
            go_simp
            go_at_call 20
            refine (fold2_any y _).mono ?_
            rintro e w3 ⟨rfl, hb3⟩
            have g3 := hHeld.next hb3
            refine hK.out _ _ g3 (fun hHeld3 => ?_)
            clear hK g3 K hHeld hb3
            try simp only [Act.put, List.setIfInBounds_toArray, List.set_cons_zero, List.set_cons_succ]
            refine takeQ 12 28 ((.bool false)) ?_
            simp only [Act.put, List.setIfInBounds_toArray, List.set_cons_zero, List.set_cons_succ]
            refine takeQ 13 29 ((.bool false)) ?_
            simp only [Act.put, List.setIfInBounds_toArray, List.set_cons_zero, List.set_cons_succ]
            refine wpAnyH_done (by kernel_rfl) ?_ _
            have HR4 := Lib.hid hHeld3
            clear hHeld3
            gi_upto_region 5 with fail
            have hJ4 := abides_to hA HJK.out HR4.out.2.2.2.2
            obtain ⟨fn, tmps, assign, body, hy, hR⟩ := hY (n - 1) _ ⟨i, hil⟩ _ hJ4 hpre
            rw [HENC.out, HRN.out] at hy
            have HK4 := Lib.hid (HKP.out.trans (kpR_below HR4.out.2.2.2.2 (by omega)))
            have HRN1 := Lib.hid (show 1 ≤ n1 ∧ n1 ≤ R.length from ⟨hn1', by omega⟩)
            have hsl := fun w => sliceD_to (some ⟨b, o, none⟩) R.length c1 n1 (by omega) w
            have hsl2 := fun w => sliceD_from (some ⟨b, o, none⟩) R.length c1 n1 (by omega) hlc1 w
            gi_wp2
            refine ⟨wide_deep _, ?_⟩
            refine hR.mono ?_
            rintro e W5 (⟨rfl, hJ5, hk5⟩ | ⟨rfl, hJx5⟩)
            · gi_wp2
              go_roundw
              case rel => exact ⟨i + 1, by rw [HNX.out.1, HNX.out.2, HRN.out, List.length_drop]; try simp, by omega, by rw [HTK.out]; exact hJ5, HK4.out.trans hk5⟩
              case measure => have := HRN1.out; simp [lenV]; omega
            · gi_wp2
              refine bodyPost_ret (results_none rfl _ _ _) rfl ?_
              exact ⟨⟨_, rfl⟩, .inr ⟨(allN _).take (i + 1), HPR.out, by rw [HTK.out]; exact hJx5⟩⟩
    · have hre := restR_end (fun d : Dat => d.t) (l := l) (i := i) (by omega)
      rw [hre]
      rw [List.take_of_length_le (by rw [allN_len]; omega)] at hJk
      gi_wp2
      go_end0
      exact ⟨⟨_, rfl⟩, .inl hJk⟩
end Go.Proofs.YthdjlaombbeagaaGreat
