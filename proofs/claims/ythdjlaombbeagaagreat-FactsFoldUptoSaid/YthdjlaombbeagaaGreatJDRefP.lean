import Derived.Laws.AppendOwnNone
import Derived.Test.YthdjlaombbeagaaGreatJORdNum
import Derived.Test.YthdjlaombbeagaaGreatJORdRead
import Derived.Test.YthdjlaombbeagaaGreatJVRef
/-
  CONTRACT: Value (the document's).
-/
namespace Go.Proofs.YthdjlaombbeagaaGreat
open Go.RowKit Go.Shelf

theorem refMay_is {k n : Int} {s : ByteArray} {m : Bool} (w : World) (hs : s.size ≤ maxLen) (hm : mayB k n s = m) :
    Calls Tryz.prog 77 #[.agg #[.int .i64 k, .int .i64 n, .string s]] w fun e w' => e = .returned (.bool m) ∧ Below w.heap.size w w' :=
  (refMay_any k n s w hs).mono fun e w' ⟨h, hb⟩ => ⟨by rw [h, hm], hb⟩
end Go.Proofs.YthdjlaombbeagaaGreat

/-
  CONTRACT: one (the document's reader of a value).
-/
namespace Go.Proofs.YthdjlaombbeagaaGreat
open Go.RowKit Go.Shelf

theorem results_cell_tmp1 {fn : Func} {p q : Tmp} {ty : TypeId} (h : fn.results = #[.cell p ty, .tmp q]) (tmps : Array Value) (P : Program) (w : World) :
    (results fn tmps).run P w =
      ((asAddr (tmps.getD p undef)).run P w).andThen fun a w₁ => ((loadVar ty a).run P w₁).andThen fun v w₂ => .ok (.tuple #[v, tmps.getD q undef]) w₂ := by
  simp only [results, h]
  simp [Sem.run_bind, Result.andThen]
end Go.Proofs.YthdjlaombbeagaaGreat

/-
  CONTRACT: Read (the document's).
-/
namespace Go.Proofs.YthdjlaombbeagaaGreat
open Go.RowKit Go.Shelf

theorem below_ownP {W w1 : World} {B : Nat} {v : Value} {l : List PartP} (h : OwnP W B v l) (hg : W.grownBy w1 v.ownBlock) (hB : B ≤ W.heap.size) : Below B W w1 :=
  (Below.refl B W).grown hg hB (fun k hk => (World.ownsRow.lt h k hk).1)
theorem OwnP.next {W W' : World} {B : Nat} {v : Value} {l : List PartP} (h : OwnP W B v l) (hb : Below W.heap.size W W') : OwnP W' B v l := h.kept (row := none) ⟨hb.os, hb.tape, hb.output, hb.size, fun k hk _ => hb.block k hk⟩ (fun r e => (by cases e))
theorem ownP_snoc {W : World} {B : Nat} {v : Value} {l : List PartP} {p : PartP} (h : W.ownsRow B 113 5 v (l.length + 1) (l.flatMap cellsP ++ cellsP p)) : OwnP W B v (l ++ [p]) := by
  show World.ownsRow _ _ _ _ _ _ _
  simpa using h

end Go.Proofs.YthdjlaombbeagaaGreat

/-
  CONTRACTS of the document's own answer over datoms: shape, Parts.
-/
namespace Go.Proofs.YthdjlaombbeagaaGreat
open Go.RowKit

theorem OwnP.low {W : World} {B B' : Nat} {v : Value} {l : List PartP} (h : OwnP W B v l) (hB : B' ≤ B) : OwnP W B' v l := by
  refine ⟨h.1, ?_⟩
  rcases h.2 with h | ⟨g, cap, cur, h1, h2, h3⟩
  · exact .inl h
  · exact .inr ⟨g, cap, cur, h1, by omega, h3⟩
theorem ownP_app {W : World} {B : Nat} {v : Value} {l r : List PartP} {m : Nat} (h : W.ownsRow B 113 5 v (l.length + m) (l.flatMap cellsP ++ r.flatMap cellsP)) (hm : r.length = m) : OwnP W B v (l ++ r) := by
  show World.ownsRow _ _ _ _ _ _ _
  rw [List.length_append, List.flatMap_append, hm]
  exact h

set_option maxHeartbeats 400000 in
theorem shape_1 (w : World) : Calls Tryz.prog 133 #[.int .i64 1] w fun e w' => e = .returned (.string ⟨#[101, 97, 118]⟩) ∧ w = w' := by
  go_enter Tryz.func133, Tryz.ntmps133
  go_wp2
  go_ret
  exact ⟨rfl, rfl⟩

set_option maxHeartbeats 400000 in
theorem shape_2 (w : World) : Calls Tryz.prog 133 #[.int .i64 2] w fun e w' => e = .returned (.string ⟨#[97, 101, 118]⟩) ∧ w = w' := by
  go_enter Tryz.func133, Tryz.ntmps133
  go_wp2
  go_ret
  exact ⟨rfl, rfl⟩

set_option maxHeartbeats 400000 in
theorem shape_3 (w : World) : Calls Tryz.prog 133 #[.int .i64 3] w fun e w' => e = .returned (.string ⟨#[97, 118, 101]⟩) ∧ w = w' := by
  go_enter Tryz.func133, Tryz.ntmps133
  go_wp2
  go_ret
  exact ⟨rfl, rfl⟩

set_option maxHeartbeats 400000 in
theorem shape_4 (w : World) : Calls Tryz.prog 133 #[.int .i64 4] w fun e w' => e = .returned (.string ⟨#[118, 97, 101]⟩) ∧ w = w' := by
  go_enter Tryz.func133, Tryz.ntmps133
  go_wp2
  go_ret
  exact ⟨rfl, rfl⟩

set_option maxRecDepth 100000 in
set_option maxHeartbeats 2000000 in
theorem refParts_1 (d : Dat) (w : World) : Calls Tryz.prog 112 #[.int .i64 1, .agg #[.int .i64 d.e, .int .i64 d.a, .int .i64 d.k, .int .i64 d.m, .string d.s, .int .i64 d.t, .bool d.add, .int .i64 d.fr, .int .i64 d.til]] w fun e w' => ∃ v, e = .returned v ∧ OwnP w' w.heap.size v (partsD 1 d) ∧ Below w.heap.size w w' := by
  obtain ⟨i0, hi, hz0, hz1, hz2⟩ := info_parts info44
  have hmx : 50000 ≤ maxLen := by decide
  obtain ⟨w0, hw0⟩ : ∃ w0, w.alloc (.cells #[.int .i64 d.e, .int .i64 d.a, .int .i64 d.k, .int .i64 d.m, .string d.s, .int .i64 d.t, .bool d.add, .int .i64 d.fr, .int .i64 d.til] 44) = w0 := ⟨_, rfl⟩
  have HD0 : Hid (DatAt w0 w.heap.size d) := by rw [← hw0]; exact datAt_new w d
  have HB0 : Hid (Below w.heap.size w w0) := by rw [← hw0]; exact (Below.refl _ _).alloc (Nat.le_refl _) _
  have hz : w0.heap.size = w.heap.size + 1 := by rw [← hw0]; simp
  have HW0 := Lib.hid hw0
  clear hw0
  go_enter Tryz.func112, Tryz.ntmps112
  go_upto_region 1 with (fail)
  rw [HW0.out]
  go_wp2_with fail
  refine (shape_1 _).mono ?_
  rintro e w1 ⟨rfl, rfl⟩
  go_wp2
  go_loopg [6, 7] 3 (fun g x y wr => ∃ (j : Nat) (acc : List PartP), y = .int .i64 j ∧ j + g = 3 ∧ acc.length = j ∧ Hid (acc = (partsD 1 d).take j) ∧ Hid (OwnP wr (w.heap.size + 1) x acc) ∧ Hid (Below (w.heap.size + 1) w0 wr) ∧ w.heap.size + 1 ≤ wr.heap.size)
  case atStart => exact ⟨0, [], rfl, by omega, rfl, rfl, World.ownsRow_nil _ _ _ _, Below.refl _ _, by omega⟩
  case round =>
    obtain ⟨j, acc, rfl, hg, hal, HA, HO, HB, hsz⟩ := hrel
    have hx := HD0.out.next HB.out (Nat.lt_succ_self _)
    rcases (by omega : j = 0 ∨ j = 1 ∨ j = 2 ∨ j = 3) with rfl | rfl | rfl | rfl
    · have c0 := hx.c0
      obtain rfl : gk = 3 := by omega
      clear hx
      go_wp2_with (at_builtin; refine wpList_append_own _ rfl _ _ 157 rfl (w.heap.size + 1) 113 i0 (.agg #[.bool false, .int .i64 0, .int .i64 0, .int .i64 0, .string ⟨#[]⟩]) 5 48 Tryz.underlying157 hi hz0 hz1 hz2 rfl (by decide) _ acc.length _ rfl (HO.out.alloc _) ⟨wr.heap.size, 0, none⟩ 1 1 (cellsP (numP d.e)) rfl rfl (fun j u h => cell_lit _ _ _ j u h) (cellsP_one (numP d.e)) (by omega) (by omega) (by simp; omega) ?_; intro v' w4 hown' hgrow _)
      have hB4 := (HB.out.alloc hsz _).trans (below_ownP (HO.out.alloc _) hgrow (by simp; omega))
      go_roundg 2
      case measure => omega
      case rel => exact ⟨1, acc ++ [numP d.e], rfl, by omega, by rw [List.length_append, hal]; rfl, (by show _ = _; rw [HA.out]; rfl), ownP_snoc hown', hB4, by have := hB4.size; omega⟩
    · have c1 := hx.c1
      obtain rfl : gk = 2 := by omega
      clear hx
      go_wp2_with (at_builtin; refine wpList_append_own _ rfl _ _ 157 rfl (w.heap.size + 1) 113 i0 (.agg #[.bool false, .int .i64 0, .int .i64 0, .int .i64 0, .string ⟨#[]⟩]) 5 48 Tryz.underlying157 hi hz0 hz1 hz2 rfl (by decide) _ acc.length _ rfl (HO.out.alloc _) ⟨wr.heap.size, 0, none⟩ 1 1 (cellsP (numP d.a)) rfl rfl (fun j u h => cell_lit _ _ _ j u h) (cellsP_one (numP d.a)) (by omega) (by omega) (by simp; omega) ?_; intro v' w4 hown' hgrow _)
      have hB4 := (HB.out.alloc hsz _).trans (below_ownP (HO.out.alloc _) hgrow (by simp; omega))
      go_roundg 1
      case measure => omega
      case rel => exact ⟨2, acc ++ [numP d.a], rfl, by omega, by rw [List.length_append, hal]; rfl, (by show _ = _; rw [HA.out]; rfl), ownP_snoc hown', hB4, by have := hB4.size; omega⟩
    · have c2 := hx.c2
      have c3 := hx.c3
      have c4 := hx.c4
      obtain rfl : gk = 1 := by omega
      clear hx
      go_wp2_with (at_builtin; refine wpList_append_own _ rfl _ _ 157 rfl (w.heap.size + 1) 113 i0 (.agg #[.bool false, .int .i64 0, .int .i64 0, .int .i64 0, .string ⟨#[]⟩]) 5 48 Tryz.underlying157 hi hz0 hz1 hz2 rfl (by decide) _ acc.length _ rfl (HO.out.alloc _) ⟨wr.heap.size, 0, none⟩ 1 1 (cellsP (valP d)) rfl rfl (fun j u h => cell_lit _ _ _ j u h) (cellsP_one (valP d)) (by omega) (by omega) (by simp; omega) ?_; intro v' w4 hown' hgrow _)
      have hB4 := (HB.out.alloc hsz _).trans (below_ownP (HO.out.alloc _) hgrow (by simp; omega))
      go_roundg 0
      case measure => omega
      case rel => exact ⟨3, acc ++ [valP d], rfl, by omega, by rw [List.length_append, hal]; rfl, (by show _ = _; rw [HA.out]; rfl), ownP_snoc hown', hB4, by have := hB4.size; omega⟩
    · have c3 := hx.c5
      have c4 := hx.c6
      have c5 := hx.c7
      have c6 := hx.c8
      obtain rfl : gk = 0 := by omega
      obtain ⟨av, hav⟩ : ∃ av, d.add = av := ⟨_, rfl⟩
      rw [hav] at c4
      have HAV := Lib.hid hav
      clear hx hav
      cases av
      · go_wp2_with (at_builtin; refine wpList_append_own _ rfl _ _ 157 rfl (w.heap.size + 1) 113 i0 (.agg #[.bool false, .int .i64 0, .int .i64 0, .int .i64 0, .string ⟨#[]⟩]) 5 48 Tryz.underlying157 hi hz0 hz1 hz2 rfl (by decide) _ acc.length _ rfl (HO.out.alloc _) ⟨wr.heap.size, 0, none⟩ 4 4 ([numP d.t, numP 1, numP d.fr, numP d.til].flatMap cellsP) rfl rfl (fun j u h => cell_lit _ _ _ j u h) (fun u hu => by obtain ⟨p, _, hp⟩ := List.mem_flatMap.1 hu; exact cellsP_one p u hp) (by omega) (by omega) (by simp; omega) ?_; intro v' w4 hown' hgrow _)
        have HB4 := Lib.hid ((HB.out.alloc hsz _).trans (below_ownP (HO.out.alloc _) hgrow (by simp; omega)))
        have HO4 : Hid (OwnP w4 (w.heap.size + 1) v' (partsD 1 d)) := by
          have h9 : acc ++ [numP d.t, numP 1, numP d.fr, numP d.til] = partsD 1 d := by
            rw [HA.out]
            have h8 : cutN d.add = 1 := by rw [HAV.out]; rfl
            show [numP d.e, numP d.a, valP d] ++ [numP d.t, numP 1, numP d.fr, numP d.til] = [numP d.e, numP d.a, valP d, numP d.t, numP (cutN d.add), numP d.fr, numP d.til]
            rw [h8]; rfl
          show OwnP _ _ _ _
          rw [← h9]
          exact ownP_app hown' rfl
        clear hown' hgrow
        go_ret
        exact ⟨_, rfl, HO4.out.low (by omega), HB0.out.trans (HB4.out.mono (by omega))⟩
      · go_wp2_with (at_builtin; refine wpList_append_own _ rfl _ _ 157 rfl (w.heap.size + 1) 113 i0 (.agg #[.bool false, .int .i64 0, .int .i64 0, .int .i64 0, .string ⟨#[]⟩]) 5 48 Tryz.underlying157 hi hz0 hz1 hz2 rfl (by decide) _ acc.length _ rfl (HO.out.alloc _) ⟨wr.heap.size, 0, none⟩ 4 4 ([numP d.t, numP 0, numP d.fr, numP d.til].flatMap cellsP) rfl rfl (fun j u h => cell_lit _ _ _ j u h) (fun u hu => by obtain ⟨p, _, hp⟩ := List.mem_flatMap.1 hu; exact cellsP_one p u hp) (by omega) (by omega) (by simp; omega) ?_; intro v' w4 hown' hgrow _)
        have HB4 := Lib.hid ((HB.out.alloc hsz _).trans (below_ownP (HO.out.alloc _) hgrow (by simp; omega)))
        have HO4 : Hid (OwnP w4 (w.heap.size + 1) v' (partsD 1 d)) := by
          have h9 : acc ++ [numP d.t, numP 0, numP d.fr, numP d.til] = partsD 1 d := by
            rw [HA.out]
            have h8 : cutN d.add = 0 := by rw [HAV.out]; rfl
            show [numP d.e, numP d.a, valP d] ++ [numP d.t, numP 0, numP d.fr, numP d.til] = [numP d.e, numP d.a, valP d, numP d.t, numP (cutN d.add), numP d.fr, numP d.til]
            rw [h8]; rfl
          show OwnP _ _ _ _
          rw [← h9]
          exact ownP_app hown' rfl
        clear hown' hgrow
        go_ret
        exact ⟨_, rfl, HO4.out.low (by omega), HB0.out.trans (HB4.out.mono (by omega))⟩
set_option maxRecDepth 100000 in
set_option maxHeartbeats 2000000 in
theorem refParts_2 (d : Dat) (w : World) : Calls Tryz.prog 112 #[.int .i64 2, .agg #[.int .i64 d.e, .int .i64 d.a, .int .i64 d.k, .int .i64 d.m, .string d.s, .int .i64 d.t, .bool d.add, .int .i64 d.fr, .int .i64 d.til]] w fun e w' => ∃ v, e = .returned v ∧ OwnP w' w.heap.size v (partsD 2 d) ∧ Below w.heap.size w w' := by
  obtain ⟨i0, hi, hz0, hz1, hz2⟩ := info_parts info44
  have hmx : 50000 ≤ maxLen := by decide
  obtain ⟨w0, hw0⟩ : ∃ w0, w.alloc (.cells #[.int .i64 d.e, .int .i64 d.a, .int .i64 d.k, .int .i64 d.m, .string d.s, .int .i64 d.t, .bool d.add, .int .i64 d.fr, .int .i64 d.til] 44) = w0 := ⟨_, rfl⟩
  have HD0 : Hid (DatAt w0 w.heap.size d) := by rw [← hw0]; exact datAt_new w d
  have HB0 : Hid (Below w.heap.size w w0) := by rw [← hw0]; exact (Below.refl _ _).alloc (Nat.le_refl _) _
  have hz : w0.heap.size = w.heap.size + 1 := by rw [← hw0]; simp
  have HW0 := Lib.hid hw0
  clear hw0
  go_enter Tryz.func112, Tryz.ntmps112
  go_upto_region 1 with (fail)
  rw [HW0.out]
  go_wp2_with fail
  refine (shape_2 _).mono ?_
  rintro e w1 ⟨rfl, rfl⟩
  go_wp2
  go_loopg [6, 7] 3 (fun g x y wr => ∃ (j : Nat) (acc : List PartP), y = .int .i64 j ∧ j + g = 3 ∧ acc.length = j ∧ Hid (acc = (partsD 2 d).take j) ∧ Hid (OwnP wr (w.heap.size + 1) x acc) ∧ Hid (Below (w.heap.size + 1) w0 wr) ∧ w.heap.size + 1 ≤ wr.heap.size)
  case atStart => exact ⟨0, [], rfl, by omega, rfl, rfl, World.ownsRow_nil _ _ _ _, Below.refl _ _, by omega⟩
  case round =>
    obtain ⟨j, acc, rfl, hg, hal, HA, HO, HB, hsz⟩ := hrel
    have hx := HD0.out.next HB.out (Nat.lt_succ_self _)
    rcases (by omega : j = 0 ∨ j = 1 ∨ j = 2 ∨ j = 3) with rfl | rfl | rfl | rfl
    · have c1 := hx.c1
      obtain rfl : gk = 3 := by omega
      clear hx
      go_wp2_with (at_builtin; refine wpList_append_own _ rfl _ _ 157 rfl (w.heap.size + 1) 113 i0 (.agg #[.bool false, .int .i64 0, .int .i64 0, .int .i64 0, .string ⟨#[]⟩]) 5 48 Tryz.underlying157 hi hz0 hz1 hz2 rfl (by decide) _ acc.length _ rfl (HO.out.alloc _) ⟨wr.heap.size, 0, none⟩ 1 1 (cellsP (numP d.a)) rfl rfl (fun j u h => cell_lit _ _ _ j u h) (cellsP_one (numP d.a)) (by omega) (by omega) (by simp; omega) ?_; intro v' w4 hown' hgrow _)
      have hB4 := (HB.out.alloc hsz _).trans (below_ownP (HO.out.alloc _) hgrow (by simp; omega))
      go_roundg 2
      case measure => omega
      case rel => exact ⟨1, acc ++ [numP d.a], rfl, by omega, by rw [List.length_append, hal]; rfl, (by show _ = _; rw [HA.out]; rfl), ownP_snoc hown', hB4, by have := hB4.size; omega⟩
    · have c0 := hx.c0
      obtain rfl : gk = 2 := by omega
      clear hx
      go_wp2_with (at_builtin; refine wpList_append_own _ rfl _ _ 157 rfl (w.heap.size + 1) 113 i0 (.agg #[.bool false, .int .i64 0, .int .i64 0, .int .i64 0, .string ⟨#[]⟩]) 5 48 Tryz.underlying157 hi hz0 hz1 hz2 rfl (by decide) _ acc.length _ rfl (HO.out.alloc _) ⟨wr.heap.size, 0, none⟩ 1 1 (cellsP (numP d.e)) rfl rfl (fun j u h => cell_lit _ _ _ j u h) (cellsP_one (numP d.e)) (by omega) (by omega) (by simp; omega) ?_; intro v' w4 hown' hgrow _)
      have hB4 := (HB.out.alloc hsz _).trans (below_ownP (HO.out.alloc _) hgrow (by simp; omega))
      go_roundg 1
      case measure => omega
      case rel => exact ⟨2, acc ++ [numP d.e], rfl, by omega, by rw [List.length_append, hal]; rfl, (by show _ = _; rw [HA.out]; rfl), ownP_snoc hown', hB4, by have := hB4.size; omega⟩
    · have c2 := hx.c2
      have c3 := hx.c3
      have c4 := hx.c4
      obtain rfl : gk = 1 := by omega
      clear hx
      go_wp2_with (at_builtin; refine wpList_append_own _ rfl _ _ 157 rfl (w.heap.size + 1) 113 i0 (.agg #[.bool false, .int .i64 0, .int .i64 0, .int .i64 0, .string ⟨#[]⟩]) 5 48 Tryz.underlying157 hi hz0 hz1 hz2 rfl (by decide) _ acc.length _ rfl (HO.out.alloc _) ⟨wr.heap.size, 0, none⟩ 1 1 (cellsP (valP d)) rfl rfl (fun j u h => cell_lit _ _ _ j u h) (cellsP_one (valP d)) (by omega) (by omega) (by simp; omega) ?_; intro v' w4 hown' hgrow _)
      have hB4 := (HB.out.alloc hsz _).trans (below_ownP (HO.out.alloc _) hgrow (by simp; omega))
      go_roundg 0
      case measure => omega
      case rel => exact ⟨3, acc ++ [valP d], rfl, by omega, by rw [List.length_append, hal]; rfl, (by show _ = _; rw [HA.out]; rfl), ownP_snoc hown', hB4, by have := hB4.size; omega⟩
    · have c3 := hx.c5
      have c4 := hx.c6
      have c5 := hx.c7
      have c6 := hx.c8
      obtain rfl : gk = 0 := by omega
      obtain ⟨av, hav⟩ : ∃ av, d.add = av := ⟨_, rfl⟩
      rw [hav] at c4
      have HAV := Lib.hid hav
      clear hx hav
      cases av
      · go_wp2_with (at_builtin; refine wpList_append_own _ rfl _ _ 157 rfl (w.heap.size + 1) 113 i0 (.agg #[.bool false, .int .i64 0, .int .i64 0, .int .i64 0, .string ⟨#[]⟩]) 5 48 Tryz.underlying157 hi hz0 hz1 hz2 rfl (by decide) _ acc.length _ rfl (HO.out.alloc _) ⟨wr.heap.size, 0, none⟩ 4 4 ([numP d.t, numP 1, numP d.fr, numP d.til].flatMap cellsP) rfl rfl (fun j u h => cell_lit _ _ _ j u h) (fun u hu => by obtain ⟨p, _, hp⟩ := List.mem_flatMap.1 hu; exact cellsP_one p u hp) (by omega) (by omega) (by simp; omega) ?_; intro v' w4 hown' hgrow _)
        have HB4 := Lib.hid ((HB.out.alloc hsz _).trans (below_ownP (HO.out.alloc _) hgrow (by simp; omega)))
        have HO4 : Hid (OwnP w4 (w.heap.size + 1) v' (partsD 2 d)) := by
          have h9 : acc ++ [numP d.t, numP 1, numP d.fr, numP d.til] = partsD 2 d := by
            rw [HA.out]
            have h8 : cutN d.add = 1 := by rw [HAV.out]; rfl
            show [numP d.a, numP d.e, valP d] ++ [numP d.t, numP 1, numP d.fr, numP d.til] = [numP d.a, numP d.e, valP d, numP d.t, numP (cutN d.add), numP d.fr, numP d.til]
            rw [h8]; rfl
          show OwnP _ _ _ _
          rw [← h9]
          exact ownP_app hown' rfl
        clear hown' hgrow
        go_ret
        exact ⟨_, rfl, HO4.out.low (by omega), HB0.out.trans (HB4.out.mono (by omega))⟩
      · go_wp2_with (at_builtin; refine wpList_append_own _ rfl _ _ 157 rfl (w.heap.size + 1) 113 i0 (.agg #[.bool false, .int .i64 0, .int .i64 0, .int .i64 0, .string ⟨#[]⟩]) 5 48 Tryz.underlying157 hi hz0 hz1 hz2 rfl (by decide) _ acc.length _ rfl (HO.out.alloc _) ⟨wr.heap.size, 0, none⟩ 4 4 ([numP d.t, numP 0, numP d.fr, numP d.til].flatMap cellsP) rfl rfl (fun j u h => cell_lit _ _ _ j u h) (fun u hu => by obtain ⟨p, _, hp⟩ := List.mem_flatMap.1 hu; exact cellsP_one p u hp) (by omega) (by omega) (by simp; omega) ?_; intro v' w4 hown' hgrow _)
        have HB4 := Lib.hid ((HB.out.alloc hsz _).trans (below_ownP (HO.out.alloc _) hgrow (by simp; omega)))
        have HO4 : Hid (OwnP w4 (w.heap.size + 1) v' (partsD 2 d)) := by
          have h9 : acc ++ [numP d.t, numP 0, numP d.fr, numP d.til] = partsD 2 d := by
            rw [HA.out]
            have h8 : cutN d.add = 0 := by rw [HAV.out]; rfl
            show [numP d.a, numP d.e, valP d] ++ [numP d.t, numP 0, numP d.fr, numP d.til] = [numP d.a, numP d.e, valP d, numP d.t, numP (cutN d.add), numP d.fr, numP d.til]
            rw [h8]; rfl
          show OwnP _ _ _ _
          rw [← h9]
          exact ownP_app hown' rfl
        clear hown' hgrow
        go_ret
        exact ⟨_, rfl, HO4.out.low (by omega), HB0.out.trans (HB4.out.mono (by omega))⟩
set_option maxRecDepth 100000 in
set_option maxHeartbeats 2000000 in
theorem refParts_3 (d : Dat) (w : World) : Calls Tryz.prog 112 #[.int .i64 3, .agg #[.int .i64 d.e, .int .i64 d.a, .int .i64 d.k, .int .i64 d.m, .string d.s, .int .i64 d.t, .bool d.add, .int .i64 d.fr, .int .i64 d.til]] w fun e w' => ∃ v, e = .returned v ∧ OwnP w' w.heap.size v (partsD 3 d) ∧ Below w.heap.size w w' := by
  obtain ⟨i0, hi, hz0, hz1, hz2⟩ := info_parts info44
  have hmx : 50000 ≤ maxLen := by decide
  obtain ⟨w0, hw0⟩ : ∃ w0, w.alloc (.cells #[.int .i64 d.e, .int .i64 d.a, .int .i64 d.k, .int .i64 d.m, .string d.s, .int .i64 d.t, .bool d.add, .int .i64 d.fr, .int .i64 d.til] 44) = w0 := ⟨_, rfl⟩
  have HD0 : Hid (DatAt w0 w.heap.size d) := by rw [← hw0]; exact datAt_new w d
  have HB0 : Hid (Below w.heap.size w w0) := by rw [← hw0]; exact (Below.refl _ _).alloc (Nat.le_refl _) _
  have hz : w0.heap.size = w.heap.size + 1 := by rw [← hw0]; simp
  have HW0 := Lib.hid hw0
  clear hw0
  go_enter Tryz.func112, Tryz.ntmps112
  go_upto_region 1 with (fail)
  rw [HW0.out]
  go_wp2_with fail
  refine (shape_3 _).mono ?_
  rintro e w1 ⟨rfl, rfl⟩
  go_wp2
  go_loopg [6, 7] 3 (fun g x y wr => ∃ (j : Nat) (acc : List PartP), y = .int .i64 j ∧ j + g = 3 ∧ acc.length = j ∧ Hid (acc = (partsD 3 d).take j) ∧ Hid (OwnP wr (w.heap.size + 1) x acc) ∧ Hid (Below (w.heap.size + 1) w0 wr) ∧ w.heap.size + 1 ≤ wr.heap.size)
  case atStart => exact ⟨0, [], rfl, by omega, rfl, rfl, World.ownsRow_nil _ _ _ _, Below.refl _ _, by omega⟩
  case round =>
    obtain ⟨j, acc, rfl, hg, hal, HA, HO, HB, hsz⟩ := hrel
    have hx := HD0.out.next HB.out (Nat.lt_succ_self _)
    rcases (by omega : j = 0 ∨ j = 1 ∨ j = 2 ∨ j = 3) with rfl | rfl | rfl | rfl
    · have c1 := hx.c1
      obtain rfl : gk = 3 := by omega
      clear hx
      go_wp2_with (at_builtin; refine wpList_append_own _ rfl _ _ 157 rfl (w.heap.size + 1) 113 i0 (.agg #[.bool false, .int .i64 0, .int .i64 0, .int .i64 0, .string ⟨#[]⟩]) 5 48 Tryz.underlying157 hi hz0 hz1 hz2 rfl (by decide) _ acc.length _ rfl (HO.out.alloc _) ⟨wr.heap.size, 0, none⟩ 1 1 (cellsP (numP d.a)) rfl rfl (fun j u h => cell_lit _ _ _ j u h) (cellsP_one (numP d.a)) (by omega) (by omega) (by simp; omega) ?_; intro v' w4 hown' hgrow _)
      have hB4 := (HB.out.alloc hsz _).trans (below_ownP (HO.out.alloc _) hgrow (by simp; omega))
      go_roundg 2
      case measure => omega
      case rel => exact ⟨1, acc ++ [numP d.a], rfl, by omega, by rw [List.length_append, hal]; rfl, (by show _ = _; rw [HA.out]; rfl), ownP_snoc hown', hB4, by have := hB4.size; omega⟩
    · have c2 := hx.c2
      have c3 := hx.c3
      have c4 := hx.c4
      obtain rfl : gk = 2 := by omega
      clear hx
      go_wp2_with (at_builtin; refine wpList_append_own _ rfl _ _ 157 rfl (w.heap.size + 1) 113 i0 (.agg #[.bool false, .int .i64 0, .int .i64 0, .int .i64 0, .string ⟨#[]⟩]) 5 48 Tryz.underlying157 hi hz0 hz1 hz2 rfl (by decide) _ acc.length _ rfl (HO.out.alloc _) ⟨wr.heap.size, 0, none⟩ 1 1 (cellsP (valP d)) rfl rfl (fun j u h => cell_lit _ _ _ j u h) (cellsP_one (valP d)) (by omega) (by omega) (by simp; omega) ?_; intro v' w4 hown' hgrow _)
      have hB4 := (HB.out.alloc hsz _).trans (below_ownP (HO.out.alloc _) hgrow (by simp; omega))
      go_roundg 1
      case measure => omega
      case rel => exact ⟨2, acc ++ [valP d], rfl, by omega, by rw [List.length_append, hal]; rfl, (by show _ = _; rw [HA.out]; rfl), ownP_snoc hown', hB4, by have := hB4.size; omega⟩
    · have c0 := hx.c0
      obtain rfl : gk = 1 := by omega
      clear hx
      go_wp2_with (at_builtin; refine wpList_append_own _ rfl _ _ 157 rfl (w.heap.size + 1) 113 i0 (.agg #[.bool false, .int .i64 0, .int .i64 0, .int .i64 0, .string ⟨#[]⟩]) 5 48 Tryz.underlying157 hi hz0 hz1 hz2 rfl (by decide) _ acc.length _ rfl (HO.out.alloc _) ⟨wr.heap.size, 0, none⟩ 1 1 (cellsP (numP d.e)) rfl rfl (fun j u h => cell_lit _ _ _ j u h) (cellsP_one (numP d.e)) (by omega) (by omega) (by simp; omega) ?_; intro v' w4 hown' hgrow _)
      have hB4 := (HB.out.alloc hsz _).trans (below_ownP (HO.out.alloc _) hgrow (by simp; omega))
      go_roundg 0
      case measure => omega
      case rel => exact ⟨3, acc ++ [numP d.e], rfl, by omega, by rw [List.length_append, hal]; rfl, (by show _ = _; rw [HA.out]; rfl), ownP_snoc hown', hB4, by have := hB4.size; omega⟩
    · have c3 := hx.c5
      have c4 := hx.c6
      have c5 := hx.c7
      have c6 := hx.c8
      obtain rfl : gk = 0 := by omega
      obtain ⟨av, hav⟩ : ∃ av, d.add = av := ⟨_, rfl⟩
      rw [hav] at c4
      have HAV := Lib.hid hav
      clear hx hav
      cases av
      · go_wp2_with (at_builtin; refine wpList_append_own _ rfl _ _ 157 rfl (w.heap.size + 1) 113 i0 (.agg #[.bool false, .int .i64 0, .int .i64 0, .int .i64 0, .string ⟨#[]⟩]) 5 48 Tryz.underlying157 hi hz0 hz1 hz2 rfl (by decide) _ acc.length _ rfl (HO.out.alloc _) ⟨wr.heap.size, 0, none⟩ 4 4 ([numP d.t, numP 1, numP d.fr, numP d.til].flatMap cellsP) rfl rfl (fun j u h => cell_lit _ _ _ j u h) (fun u hu => by obtain ⟨p, _, hp⟩ := List.mem_flatMap.1 hu; exact cellsP_one p u hp) (by omega) (by omega) (by simp; omega) ?_; intro v' w4 hown' hgrow _)
        have HB4 := Lib.hid ((HB.out.alloc hsz _).trans (below_ownP (HO.out.alloc _) hgrow (by simp; omega)))
        have HO4 : Hid (OwnP w4 (w.heap.size + 1) v' (partsD 3 d)) := by
          have h9 : acc ++ [numP d.t, numP 1, numP d.fr, numP d.til] = partsD 3 d := by
            rw [HA.out]
            have h8 : cutN d.add = 1 := by rw [HAV.out]; rfl
            show [numP d.a, valP d, numP d.e] ++ [numP d.t, numP 1, numP d.fr, numP d.til] = [numP d.a, valP d, numP d.e, numP d.t, numP (cutN d.add), numP d.fr, numP d.til]
            rw [h8]; rfl
          show OwnP _ _ _ _
          rw [← h9]
          exact ownP_app hown' rfl
        clear hown' hgrow
        go_ret
        exact ⟨_, rfl, HO4.out.low (by omega), HB0.out.trans (HB4.out.mono (by omega))⟩
      · go_wp2_with (at_builtin; refine wpList_append_own _ rfl _ _ 157 rfl (w.heap.size + 1) 113 i0 (.agg #[.bool false, .int .i64 0, .int .i64 0, .int .i64 0, .string ⟨#[]⟩]) 5 48 Tryz.underlying157 hi hz0 hz1 hz2 rfl (by decide) _ acc.length _ rfl (HO.out.alloc _) ⟨wr.heap.size, 0, none⟩ 4 4 ([numP d.t, numP 0, numP d.fr, numP d.til].flatMap cellsP) rfl rfl (fun j u h => cell_lit _ _ _ j u h) (fun u hu => by obtain ⟨p, _, hp⟩ := List.mem_flatMap.1 hu; exact cellsP_one p u hp) (by omega) (by omega) (by simp; omega) ?_; intro v' w4 hown' hgrow _)
        have HB4 := Lib.hid ((HB.out.alloc hsz _).trans (below_ownP (HO.out.alloc _) hgrow (by simp; omega)))
        have HO4 : Hid (OwnP w4 (w.heap.size + 1) v' (partsD 3 d)) := by
          have h9 : acc ++ [numP d.t, numP 0, numP d.fr, numP d.til] = partsD 3 d := by
            rw [HA.out]
            have h8 : cutN d.add = 0 := by rw [HAV.out]; rfl
            show [numP d.a, valP d, numP d.e] ++ [numP d.t, numP 0, numP d.fr, numP d.til] = [numP d.a, valP d, numP d.e, numP d.t, numP (cutN d.add), numP d.fr, numP d.til]
            rw [h8]; rfl
          show OwnP _ _ _ _
          rw [← h9]
          exact ownP_app hown' rfl
        clear hown' hgrow
        go_ret
        exact ⟨_, rfl, HO4.out.low (by omega), HB0.out.trans (HB4.out.mono (by omega))⟩
set_option maxRecDepth 100000 in
set_option maxHeartbeats 2000000 in
theorem refParts_4 (d : Dat) (w : World) : Calls Tryz.prog 112 #[.int .i64 4, .agg #[.int .i64 d.e, .int .i64 d.a, .int .i64 d.k, .int .i64 d.m, .string d.s, .int .i64 d.t, .bool d.add, .int .i64 d.fr, .int .i64 d.til]] w fun e w' => ∃ v, e = .returned v ∧ OwnP w' w.heap.size v (partsD 4 d) ∧ Below w.heap.size w w' := by
  obtain ⟨i0, hi, hz0, hz1, hz2⟩ := info_parts info44
  have hmx : 50000 ≤ maxLen := by decide
  obtain ⟨w0, hw0⟩ : ∃ w0, w.alloc (.cells #[.int .i64 d.e, .int .i64 d.a, .int .i64 d.k, .int .i64 d.m, .string d.s, .int .i64 d.t, .bool d.add, .int .i64 d.fr, .int .i64 d.til] 44) = w0 := ⟨_, rfl⟩
  have HD0 : Hid (DatAt w0 w.heap.size d) := by rw [← hw0]; exact datAt_new w d
  have HB0 : Hid (Below w.heap.size w w0) := by rw [← hw0]; exact (Below.refl _ _).alloc (Nat.le_refl _) _
  have hz : w0.heap.size = w.heap.size + 1 := by rw [← hw0]; simp
  have HW0 := Lib.hid hw0
  clear hw0
  go_enter Tryz.func112, Tryz.ntmps112
  go_upto_region 1 with (fail)
  rw [HW0.out]
  go_wp2_with fail
  refine (shape_4 _).mono ?_
  rintro e w1 ⟨rfl, rfl⟩
  go_wp2
  go_loopg [6, 7] 3 (fun g x y wr => ∃ (j : Nat) (acc : List PartP), y = .int .i64 j ∧ j + g = 3 ∧ acc.length = j ∧ Hid (acc = (partsD 4 d).take j) ∧ Hid (OwnP wr (w.heap.size + 1) x acc) ∧ Hid (Below (w.heap.size + 1) w0 wr) ∧ w.heap.size + 1 ≤ wr.heap.size)
  case atStart => exact ⟨0, [], rfl, by omega, rfl, rfl, World.ownsRow_nil _ _ _ _, Below.refl _ _, by omega⟩
  case round =>
    obtain ⟨j, acc, rfl, hg, hal, HA, HO, HB, hsz⟩ := hrel
    have hx := HD0.out.next HB.out (Nat.lt_succ_self _)
    rcases (by omega : j = 0 ∨ j = 1 ∨ j = 2 ∨ j = 3) with rfl | rfl | rfl | rfl
    · have c2 := hx.c2
      have c3 := hx.c3
      have c4 := hx.c4
      obtain rfl : gk = 3 := by omega
      clear hx
      go_wp2_with (at_builtin; refine wpList_append_own _ rfl _ _ 157 rfl (w.heap.size + 1) 113 i0 (.agg #[.bool false, .int .i64 0, .int .i64 0, .int .i64 0, .string ⟨#[]⟩]) 5 48 Tryz.underlying157 hi hz0 hz1 hz2 rfl (by decide) _ acc.length _ rfl (HO.out.alloc _) ⟨wr.heap.size, 0, none⟩ 1 1 (cellsP (valP d)) rfl rfl (fun j u h => cell_lit _ _ _ j u h) (cellsP_one (valP d)) (by omega) (by omega) (by simp; omega) ?_; intro v' w4 hown' hgrow _)
      have hB4 := (HB.out.alloc hsz _).trans (below_ownP (HO.out.alloc _) hgrow (by simp; omega))
      go_roundg 2
      case measure => omega
      case rel => exact ⟨1, acc ++ [valP d], rfl, by omega, by rw [List.length_append, hal]; rfl, (by show _ = _; rw [HA.out]; rfl), ownP_snoc hown', hB4, by have := hB4.size; omega⟩
    · have c1 := hx.c1
      obtain rfl : gk = 2 := by omega
      clear hx
      go_wp2_with (at_builtin; refine wpList_append_own _ rfl _ _ 157 rfl (w.heap.size + 1) 113 i0 (.agg #[.bool false, .int .i64 0, .int .i64 0, .int .i64 0, .string ⟨#[]⟩]) 5 48 Tryz.underlying157 hi hz0 hz1 hz2 rfl (by decide) _ acc.length _ rfl (HO.out.alloc _) ⟨wr.heap.size, 0, none⟩ 1 1 (cellsP (numP d.a)) rfl rfl (fun j u h => cell_lit _ _ _ j u h) (cellsP_one (numP d.a)) (by omega) (by omega) (by simp; omega) ?_; intro v' w4 hown' hgrow _)
      have hB4 := (HB.out.alloc hsz _).trans (below_ownP (HO.out.alloc _) hgrow (by simp; omega))
      go_roundg 1
      case measure => omega
      case rel => exact ⟨2, acc ++ [numP d.a], rfl, by omega, by rw [List.length_append, hal]; rfl, (by show _ = _; rw [HA.out]; rfl), ownP_snoc hown', hB4, by have := hB4.size; omega⟩
    · have c0 := hx.c0
      obtain rfl : gk = 1 := by omega
      clear hx
      go_wp2_with (at_builtin; refine wpList_append_own _ rfl _ _ 157 rfl (w.heap.size + 1) 113 i0 (.agg #[.bool false, .int .i64 0, .int .i64 0, .int .i64 0, .string ⟨#[]⟩]) 5 48 Tryz.underlying157 hi hz0 hz1 hz2 rfl (by decide) _ acc.length _ rfl (HO.out.alloc _) ⟨wr.heap.size, 0, none⟩ 1 1 (cellsP (numP d.e)) rfl rfl (fun j u h => cell_lit _ _ _ j u h) (cellsP_one (numP d.e)) (by omega) (by omega) (by simp; omega) ?_; intro v' w4 hown' hgrow _)
      have hB4 := (HB.out.alloc hsz _).trans (below_ownP (HO.out.alloc _) hgrow (by simp; omega))
      go_roundg 0
      case measure => omega
      case rel => exact ⟨3, acc ++ [numP d.e], rfl, by omega, by rw [List.length_append, hal]; rfl, (by show _ = _; rw [HA.out]; rfl), ownP_snoc hown', hB4, by have := hB4.size; omega⟩
    · have c3 := hx.c5
      have c4 := hx.c6
      have c5 := hx.c7
      have c6 := hx.c8
      obtain rfl : gk = 0 := by omega
      obtain ⟨av, hav⟩ : ∃ av, d.add = av := ⟨_, rfl⟩
      rw [hav] at c4
      have HAV := Lib.hid hav
      clear hx hav
      cases av
      · go_wp2_with (at_builtin; refine wpList_append_own _ rfl _ _ 157 rfl (w.heap.size + 1) 113 i0 (.agg #[.bool false, .int .i64 0, .int .i64 0, .int .i64 0, .string ⟨#[]⟩]) 5 48 Tryz.underlying157 hi hz0 hz1 hz2 rfl (by decide) _ acc.length _ rfl (HO.out.alloc _) ⟨wr.heap.size, 0, none⟩ 4 4 ([numP d.t, numP 1, numP d.fr, numP d.til].flatMap cellsP) rfl rfl (fun j u h => cell_lit _ _ _ j u h) (fun u hu => by obtain ⟨p, _, hp⟩ := List.mem_flatMap.1 hu; exact cellsP_one p u hp) (by omega) (by omega) (by simp; omega) ?_; intro v' w4 hown' hgrow _)
        have HB4 := Lib.hid ((HB.out.alloc hsz _).trans (below_ownP (HO.out.alloc _) hgrow (by simp; omega)))
        have HO4 : Hid (OwnP w4 (w.heap.size + 1) v' (partsD 4 d)) := by
          have h9 : acc ++ [numP d.t, numP 1, numP d.fr, numP d.til] = partsD 4 d := by
            rw [HA.out]
            have h8 : cutN d.add = 1 := by rw [HAV.out]; rfl
            show [valP d, numP d.a, numP d.e] ++ [numP d.t, numP 1, numP d.fr, numP d.til] = [valP d, numP d.a, numP d.e, numP d.t, numP (cutN d.add), numP d.fr, numP d.til]
            rw [h8]; rfl
          show OwnP _ _ _ _
          rw [← h9]
          exact ownP_app hown' rfl
        clear hown' hgrow
        go_ret
        exact ⟨_, rfl, HO4.out.low (by omega), HB0.out.trans (HB4.out.mono (by omega))⟩
      · go_wp2_with (at_builtin; refine wpList_append_own _ rfl _ _ 157 rfl (w.heap.size + 1) 113 i0 (.agg #[.bool false, .int .i64 0, .int .i64 0, .int .i64 0, .string ⟨#[]⟩]) 5 48 Tryz.underlying157 hi hz0 hz1 hz2 rfl (by decide) _ acc.length _ rfl (HO.out.alloc _) ⟨wr.heap.size, 0, none⟩ 4 4 ([numP d.t, numP 0, numP d.fr, numP d.til].flatMap cellsP) rfl rfl (fun j u h => cell_lit _ _ _ j u h) (fun u hu => by obtain ⟨p, _, hp⟩ := List.mem_flatMap.1 hu; exact cellsP_one p u hp) (by omega) (by omega) (by simp; omega) ?_; intro v' w4 hown' hgrow _)
        have HB4 := Lib.hid ((HB.out.alloc hsz _).trans (below_ownP (HO.out.alloc _) hgrow (by simp; omega)))
        have HO4 : Hid (OwnP w4 (w.heap.size + 1) v' (partsD 4 d)) := by
          have h9 : acc ++ [numP d.t, numP 0, numP d.fr, numP d.til] = partsD 4 d := by
            rw [HA.out]
            have h8 : cutN d.add = 0 := by rw [HAV.out]; rfl
            show [valP d, numP d.a, numP d.e] ++ [numP d.t, numP 0, numP d.fr, numP d.til] = [valP d, numP d.a, numP d.e, numP d.t, numP (cutN d.add), numP d.fr, numP d.til]
            rw [h8]; rfl
          show OwnP _ _ _ _
          rw [← h9]
          exact ownP_app hown' rfl
        clear hown' hgrow
        go_ret
        exact ⟨_, rfl, HO4.out.low (by omega), HB0.out.trans (HB4.out.mono (by omega))⟩
/-- Parts, in an order. -/
theorem refParts_any (o : Int) (d : Dat) (w : World) (ho : isO o = true) : Calls Tryz.prog 112 #[.int .i64 o, .agg #[.int .i64 d.e, .int .i64 d.a, .int .i64 d.k, .int .i64 d.m, .string d.s, .int .i64 d.t, .bool d.add, .int .i64 d.fr, .int .i64 d.til]] w fun e w' => ∃ v, e = .returned v ∧ OwnP w' w.heap.size v (partsD o d) ∧ Below w.heap.size w w' := by
  rcases isO_cases ho with rfl | rfl | rfl | rfl
  · exact refParts_1 d w
  · exact refParts_2 d w
  · exact refParts_3 d w
  · exact refParts_4 d w
end Go.Proofs.YthdjlaombbeagaaGreat
