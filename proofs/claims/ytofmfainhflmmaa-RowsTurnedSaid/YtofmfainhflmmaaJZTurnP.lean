import Derived.Test.YtofmfainhflmmaaJZAliveR
import Derived.Test.YtofmfainhflmmaaJZRefMay
/-
  CONTRACT: the law's alive.
-/
namespace Go.Proofs.Ytofmfainhflmmaa
open Go.RowKit

attribute [local irreducible] c1A c2A c3A t1A t2A t3A putsG
set_option maxRecDepth 100000 in
set_option maxHeartbeats 2000000 in
theorem alive_any (w : World) : Calls Try.prog 41 #[] w fun e w' => e = .returned (.bool true) ∧ Below w.heap.size w w' := by
  have HO := Lib.hid (oneA w)
  go_enter Try.func41, Try.ntmps41
  go_wp2_with fail
  refine HO.out.mono ?_
  rintro e w1 ⟨hb1, A1, c1, A2, c2, R1, rfl, hc1, hr1, ht1⟩
  have HB1 := Lib.hid hb1
  have HX1 := Lib.hid (And.intro hc1 (And.intro hr1 ht1))
  have HT := Lib.hid (twoA w1)
  clear hb1 hc1 hr1 ht1 HO
  go_wp2_with fail
  refine HT.out.mono ?_
  rintro e w2 ⟨hb2, A3, c3, A4, c4, R2, rfl, hc3, hr4, ht2⟩
  have HB2 := Lib.hid (HB1.out.trans (hb2.mono HB1.out.size))
  have HX2 := Lib.hid (And.intro hc3 (And.intro hr4 ht2))
  have HX12 := Lib.hid (And.intro (owns_next HX1.out.1 hb2) (HX1.out.2.1.next hb2))
  have hl1 : R1.length = 3 := by rw [← txR_len, HX1.out.2.2]; exact lensA.2.2.2.1
  have hl2 : R2.length = 2 := by rw [← txR_len, ht2]; exact lensA.2.2.2.2.1
  obtain ⟨a1, d1, e1, hs1, hcc1, _, hz1, _⟩ := Own1.form HX12.out.1
  injection e1 with e1 _ e1c
  subst e1 e1c
  obtain ⟨a2, d2, e2, hs2, _, _, _, _⟩ := HX12.out.2.form
  injection e2 with e2 _ e2c
  subst e2 e2c
  obtain ⟨a3, d3, e3, hs3, hcc3, _, _, _⟩ := Own1.form hc3
  injection e3 with e3 _ e3c
  subst e3 e3c
  obtain ⟨a4, d4, e4, hs4, _, _, hz4, _⟩ := hr4.form
  injection e4 with e4 _ e4c
  subst e4 e4c
  have HJN := Lib.hid (join_any A1 c1 c1A A2 c2 R1 A3 c3 c2A A4 c4 R2 w2 hs1 hs2 hs3 hs4 hcc1 hcc3 (by rw [lensA.1]; omega) (by omega) (by rw [lensA.2.1]; omega) (by omega) hz1 hz4 (by rw [hl1, hl2]; decide))
  rw [hl1, hl2] at HJN
  clear hs1 hs2 hs3 hs4 hcc1 hcc3 hz1 hz4 hc3 hr4 ht2 hb2 HT HX12
  go_wp2_with fail
  refine HJN.out.mono ?_
  intro e w3 hre
  obtain ⟨hb3, vc, vr, C3, R3, rfl, hoc, har, _, _, hC, hT⟩ := joinEA HX1.out.2.2 HX2.out.2.2 hre
  rw [if_pos rfl] at hC hT
  subst hC
  obtain ⟨A5, c5, rfl, hs5, _⟩ := Own1.form hoc
  obtain ⟨A6, c6, rfl, hs6, _⟩ := har.f
  have HB3 := Lib.hid (HB2.out.trans (hb3.mono HB2.out.size))
  have HR3 := Lib.hid (And.intro hs5 (And.intro har hT))
  have HA3 := Lib.hid hs6
  have HL3 : Hid (R3.length = 2) := by show _ = _; rw [← txR_len, hT]; exact lensA.2.2.2.2.2
  clear hb3 hoc har hs5 hs6 HJN hT
  go_wp2_with fail
  obtain ⟨wM, hwM⟩ : ∃ wM, w3.alloc (.cells #[.slice A5 c3A.length c5, .slice A6 R3.length c6] 34) = wM := ⟨_, rfl⟩
  have hbM : Below w3.heap.size w3 wM := by rw [← hwM]; exact (Below.refl _ _).alloc (Nat.le_refl _) _
  have hcM : wM.cell? ⟨w3.heap.size, 0, none⟩ = some (.slice A5 c3A.length c5) ∧ wM.cell? ⟨w3.heap.size, 1, none⟩ = some (.slice A6 R3.length c6) := by rw [← hwM]; exact ⟨by rw [World.cell?_alloc_new]; rfl, by rw [World.cell?_alloc_new]; rfl⟩
  have hzM : w3.heap.size < wM.heap.size := by rw [← hwM]; simp
  rw [hwM]
  clear hwM
  obtain ⟨wd, hwd⟩ : ∃ wd, wM.drew = wd := ⟨_, rfl⟩
  have hbD : Below wM.heap.size wM wd := by rw [← hwd]; exact (Below.refl _ _).drew
  have hcD := And.intro ((hbD.cell (p := ⟨w3.heap.size, 0, none⟩) hzM).trans hcM.1) ((hbD.cell (p := ⟨w3.heap.size, 1, none⟩) hzM).trans hcM.2)
  have hzD : w3.heap.size < wd.heap.size := Nat.lt_of_lt_of_le hzM hbD.size
  have HBD := Lib.hid (HB3.out.trans ((hbM.trans (hbD.mono hbM.size)).mono HB3.out.size))
  have HB3D := Lib.hid (hbM.trans (hbD.mono hbM.size))
  have HCD := Lib.hid (And.intro hcD.1 (And.intro hcD.2 hzD))
  refine wp_region_held_drew (S := fun X => Below wd.heap.size wd X) (by kernel_rfl) (by rw [hwd]; exact Below.refl _ _) (fun hHeld => ?_)
  rw [hwd] at hHeld ⊢
  clear hwd hbM hcM hzM hbD hcD hzD
  refine takeV 0 (some 9) ((.int .i64 0)) rfl rfl (by kernel_rfl) (by kernel_rfl) (by kernel_rfl) (fun _ _ _ h => h) (by rfl) (by (intro _w _hSw; (try dsimp only at _hSw); go_simp)) (by assumption) ?_
  simp only [Act.put, List.setIfInBounds_toArray, List.set_cons_zero, List.set_cons_succ]
  refine takeV 1 (some 10) ((.bool true)) rfl rfl (by kernel_rfl) (by kernel_rfl) (by kernel_rfl) (fun _ _ _ h => h) (by rfl) (by (intro _w _hSw; (try dsimp only at _hSw); go_simp)) (by assumption) ?_
  simp only [Act.put, List.setIfInBounds_toArray, List.set_cons_zero, List.set_cons_succ]
  refine takeV 2 (some 11) ((.bool true)) rfl rfl (by kernel_rfl) (by kernel_rfl) (by kernel_rfl) (fun _ _ _ h => h) (by rfl) (by (intro _w _hSw; (try dsimp only at _hSw); go_simp)) (by assumption) ?_
  simp only [Act.put, List.setIfInBounds_toArray, List.set_cons_zero, List.set_cons_succ]
  refine takeV 3 (some 12) ((.agg #[.slice A5 c3A.length c5, .slice A6 R3.length c6])) rfl rfl (by kernel_rfl) (by kernel_rfl) (by kernel_rfl) (fun _ _ _ h => h) (by rfl) (by (intro _w hSw; have k0 := (hSw.cell (p := ⟨w3.heap.size, 0, none⟩) HCD.out.2.2).trans HCD.out.1; have k1 := (hSw.cell (p := ⟨w3.heap.size, 1, none⟩) HCD.out.2.2).trans HCD.out.2.1; clear hSw; go_simp)) (by assumption) ?_
  simp only [Act.put, List.setIfInBounds_toArray, List.set_cons_zero, List.set_cons_succ]
  refine wpAnyH_inv (fun L a X => Below wd.heap.size wd X ∧ ∃ (b : Bool) (k : Fin 12) (s0 v13 v14 v15 v16 v17 v18 v19 v20 v21 : Value), (8 ≤ k.val → b = true) ∧ L = LofA b k ∧ a = { tmps := #[s0, .pointer (some ⟨w3.heap.size, 0, none⟩), .int .i64 0, .tuple #[.agg #[.slice A5 c3A.length c5, .slice A6 R3.length c6], .int .i64 0], .agg #[.slice A1 c1A.length c1, .slice A2 3 c2], .agg #[.slice A3 c2A.length c3, .slice A4 2 c4], .tuple #[.agg #[.slice A5 c3A.length c5, .slice A6 R3.length c6], .int .i64 0], .agg #[.slice A5 c3A.length c5, .slice A6 R3.length c6], .int .i64 0, .int .i64 0, .bool true, .bool true, .agg #[.slice A5 c3A.length c5, .slice A6 R3.length c6], v13, v14, v15, v16, v17, v18, v19, v20, v21], defers := [] } ∧ Hid (RFA b k s0 v13 v14 v15 v16 v17 v18 v19 v20 v21 X)) (fun L => (L.toList.filter (fun x => !x)).length) ?hm ?hstep ?hdone _ _ _ _ (by decide +kernel) ⟨hHeld, false, 0, _, _, _, _, _, _, _, _, _, _, by decide, by decide +kernel, rfl, rfa_zero⟩
  case hm =>
    rintro L a X i ⟨hB, b, k, s0, v13, v14, v15, v16, v17, v18, v19, v20, v21, hk8, rfl, ha, HR⟩ hi
    clear HR ha hB
    revert i
    revert hk8
    revert b k
    decide +kernel
  case hstep =>
    rintro L a X i ⟨hB, b, k, s0, v13, v14, v15, v16, v17, v18, v19, v20, v21, hk8, rfl, rfl, HR⟩ hi
    have key : okA b k i = true := by
      clear HR hB
      revert i
      revert hk8
      revert b k
      decide +kernel
    have key := okA_cases key
    clear hi
    rcases key with ⟨rfl, rfl, hk⟩ | ⟨rfl, rfl | rfl⟩ | ⟨rfl, rfl | rfl | rfl⟩ | ⟨rfl, rfl | rfl⟩ | ⟨rfl, rfl⟩ | ⟨rfl, rfl⟩ | ⟨rfl, rfl, hbt⟩ | ⟨rfl, rfl⟩ | ⟨rfl, rfl⟩ | ⟨rfl, rfl⟩
    · have hb : Below X.heap.size X (X.alloc (.cells #[.string ⟨#[120]⟩, .string ⟨#[121]⟩, .string ⟨#[122]⟩] 9)) := (Below.refl _ _).alloc (Nat.le_refl _) _
      have HU := HR.out.up hb
      have hs : SlC (X.alloc (.cells #[.string ⟨#[120]⟩, .string ⟨#[121]⟩, .string ⟨#[122]⟩] 9)) (X.alloc (.cells #[.string ⟨#[120]⟩, .string ⟨#[121]⟩, .string ⟨#[122]⟩] 9)).heap.size (some ⟨X.heap.size, 0, none⟩) c3A := namesA X
      refine ⟨_, rfl, by rfl, fun K' hK => ?_⟩
      go_simp
      exact hK.out _ _ ⟨(hB.trans (hb.mono hB.size)), (hB.trans (hb.mono hB.size)), true, k, _, _, _, _, _, _, _, _, _, _, (fun _ => rfl), lofA_four k hk, rfl, ⟨fun _ => ⟨_, rfl, hs⟩, fun e => HU.h14 (by rw [isA_more (b' := true) (by decide)]; exact e), fun e => HU.h15 (by rw [isA_more (b' := true) (by decide)]; exact e), fun e => HU.h16 (by rw [isA_more (b' := true) (by decide)]; exact e), fun e => HU.h17 (by rw [isA_more (b' := true) (by decide)]; exact e), fun e => HU.h18 (by rw [isA_more (b' := true) (by decide)]; exact e), fun e => absurd (isA_late e) (by omega), fun e => HU.h20 (by rw [isA_more (b' := true) (by decide)]; exact e), fun e => HU.h21 (by rw [isA_more (b' := true) (by decide)]; exact e), fun e => HU.h0 (by rw [isA_more (b' := true) (by decide)]; exact e)⟩⟩
    · have hb : Below X.heap.size X (X.alloc (.cells #[.int .i64 1, .int .i64 2, .int .i64 100] 2)) := (Below.refl _ _).alloc (Nat.le_refl _) _
      have HU := HR.out.up hb
      have hs : Sl1 i64V (X.alloc (.cells #[.int .i64 1, .int .i64 2, .int .i64 100] 2)) (X.alloc (.cells #[.int .i64 1, .int .i64 2, .int .i64 100] 2)).heap.size (some ⟨X.heap.size, 0, none⟩) [1, 2, 100] := sl1_lit i64V 2 X [1, 2, 100]
      refine ⟨_, rfl, by rfl, fun K' hK => ?_⟩
      go_simp
      exact hK.out _ _ ⟨(hB.trans (hb.mono hB.size)), (hB.trans (hb.mono hB.size)), b, 1, _, _, _, _, _, _, _, _, _, _, (fun h => absurd h (by decide)), (by cases b <;> decide +kernel), rfl, ⟨fun e => HU.h13 (by rw [isA_four] at e ⊢; exact e), fun _ => ⟨_, rfl, hs⟩, fun e => absurd e (by cases b <;> decide), fun e => absurd e (by cases b <;> decide), fun e => absurd e (by cases b <;> decide), fun e => absurd e (by cases b <;> decide), fun e => absurd e (by cases b <;> decide), fun e => absurd e (by cases b <;> decide), fun e => absurd e (by cases b <;> decide), fun e => absurd e (by cases b <;> decide)⟩⟩
    · have hb : Below X.heap.size X (X.alloc (.cells #[.int .i64 1, .int .i64 2, .int .i64 100] 2)) := (Below.refl _ _).alloc (Nat.le_refl _) _
      have HU := HR.out.up hb
      have hs : Sl1 i64V (X.alloc (.cells #[.int .i64 1, .int .i64 2, .int .i64 100] 2)) (X.alloc (.cells #[.int .i64 1, .int .i64 2, .int .i64 100] 2)).heap.size (some ⟨X.heap.size, 0, none⟩) [1, 2, 100] := sl1_lit i64V 2 X [1, 2, 100]
      refine ⟨_, rfl, by rfl, fun K' hK => ?_⟩
      go_simp
      exact hK.out _ _ ⟨(hB.trans (hb.mono hB.size)), (hB.trans (hb.mono hB.size)), b, 3, _, _, _, _, _, _, _, _, _, _, (fun h => absurd h (by decide)), (by cases b <;> decide +kernel), rfl, ⟨fun e => HU.h13 (by rw [isA_four] at e ⊢; exact e), fun _ => ⟨_, rfl, hs⟩, fun e => absurd e (by cases b <;> decide), fun _ => HU.h16 (by cases b <;> decide), fun e => absurd e (by cases b <;> decide), fun e => absurd e (by cases b <;> decide), fun e => absurd e (by cases b <;> decide), fun e => absurd e (by cases b <;> decide), fun e => absurd e (by cases b <;> decide), fun e => absurd e (by cases b <;> decide)⟩⟩
    · have hb : Below X.heap.size X (X.alloc (.cells #[.int .i64 2, .int .i64 2, .int .i64 100] 2)) := (Below.refl _ _).alloc (Nat.le_refl _) _
      have HU := HR.out.up hb
      have hs : Sl1 i64V (X.alloc (.cells #[.int .i64 2, .int .i64 2, .int .i64 100] 2)) (X.alloc (.cells #[.int .i64 2, .int .i64 2, .int .i64 100] 2)).heap.size (some ⟨X.heap.size, 0, none⟩) [2, 2, 100] := sl1_lit i64V 2 X [2, 2, 100]
      refine ⟨_, rfl, by rfl, fun K' hK => ?_⟩
      go_simp
      exact hK.out _ _ ⟨(hB.trans (hb.mono hB.size)), (hB.trans (hb.mono hB.size)), b, 2, _, _, _, _, _, _, _, _, _, _, (fun h => absurd h (by decide)), (by cases b <;> decide +kernel), rfl, ⟨fun e => HU.h13 (by rw [isA_four] at e ⊢; exact e), fun e => absurd e (by cases b <;> decide), fun e => absurd e (by cases b <;> decide), fun _ => ⟨_, rfl, hs⟩, fun e => absurd e (by cases b <;> decide), fun e => absurd e (by cases b <;> decide), fun e => absurd e (by cases b <;> decide), fun e => absurd e (by cases b <;> decide), fun e => absurd e (by cases b <;> decide), fun e => absurd e (by cases b <;> decide)⟩⟩
    · have hb : Below X.heap.size X (X.alloc (.cells #[.int .i64 2, .int .i64 2, .int .i64 100] 2)) := (Below.refl _ _).alloc (Nat.le_refl _) _
      have HU := HR.out.up hb
      have hs : Sl1 i64V (X.alloc (.cells #[.int .i64 2, .int .i64 2, .int .i64 100] 2)) (X.alloc (.cells #[.int .i64 2, .int .i64 2, .int .i64 100] 2)).heap.size (some ⟨X.heap.size, 0, none⟩) [2, 2, 100] := sl1_lit i64V 2 X [2, 2, 100]
      refine ⟨_, rfl, by rfl, fun K' hK => ?_⟩
      go_simp
      exact hK.out _ _ ⟨(hB.trans (hb.mono hB.size)), (hB.trans (hb.mono hB.size)), b, 3, _, _, _, _, _, _, _, _, _, _, (fun h => absurd h (by decide)), (by cases b <;> decide +kernel), rfl, ⟨fun e => HU.h13 (by rw [isA_four] at e ⊢; exact e), fun _ => HU.h14 (by cases b <;> decide), fun e => absurd e (by cases b <;> decide), fun _ => ⟨_, rfl, hs⟩, fun e => absurd e (by cases b <;> decide), fun e => absurd e (by cases b <;> decide), fun e => absurd e (by cases b <;> decide), fun e => absurd e (by cases b <;> decide), fun e => absurd e (by cases b <;> decide), fun e => absurd e (by cases b <;> decide)⟩⟩
    · have hb : Below X.heap.size X (X.alloc (.cells #[.int .i64 2, .int .i64 2, .int .i64 100] 2)) := (Below.refl _ _).alloc (Nat.le_refl _) _
      have HU := HR.out.up hb
      have hs : Sl1 i64V (X.alloc (.cells #[.int .i64 2, .int .i64 2, .int .i64 100] 2)) (X.alloc (.cells #[.int .i64 2, .int .i64 2, .int .i64 100] 2)).heap.size (some ⟨X.heap.size, 0, none⟩) [2, 2, 100] := sl1_lit i64V 2 X [2, 2, 100]
      refine ⟨_, rfl, by rfl, fun K' hK => ?_⟩
      go_simp
      exact hK.out _ _ ⟨(hB.trans (hb.mono hB.size)), (hB.trans (hb.mono hB.size)), b, 5, _, _, _, _, _, _, _, _, _, _, (fun h => absurd h (by decide)), (by cases b <;> decide +kernel), rfl, ⟨fun e => HU.h13 (by rw [isA_four] at e ⊢; exact e), fun _ => HU.h14 (by cases b <;> decide), fun _ => HU.h15 (by cases b <;> decide), fun _ => ⟨_, rfl, hs⟩, fun e => absurd e (by cases b <;> decide), fun e => absurd e (by cases b <;> decide), fun e => absurd e (by cases b <;> decide), fun e => absurd e (by cases b <;> decide), fun e => absurd e (by cases b <;> decide), fun e => absurd e (by cases b <;> decide)⟩⟩
    · obtain ⟨A9, rfl, hs9⟩ := HR.out.h14 (by cases b <;> decide)
      have HROW := Lib.hid (row_any A9 3 [1, 2, 100] X hs9 (by decide) (by unfold rowOk; decide))
      clear hs9
      refine ⟨_, rfl, by rfl, fun K' hK => ?_⟩
      go_simp
      refine HROW.out.mono ?_
      rintro e Y ⟨⟨v9, rfl, ho9⟩, hb⟩
      obtain ⟨A8, c8, rfl, _⟩ := ho9.form
      have hrk := OwnV.rwOk (r := ⟨A8, c8, r1A⟩) ho9 (rowL_z (l := [1, 2, 100]) (by unfold rowOk; decide))
      have HU := HR.out.up hb
      exact hK.out _ _ ⟨(hB.trans (hb.mono hB.size)), (hB.trans (hb.mono hB.size)), b, 4, _, _, _, _, _, _, _, _, _, _, (fun h => absurd h (by decide)), (by cases b <;> decide +kernel), rfl, ⟨fun e => HU.h13 (by rw [isA_four] at e ⊢; exact e), fun _ => HU.h14 (by cases b <;> decide), fun _ => ⟨_, _, rfl, hrk⟩, fun e => absurd e (by cases b <;> decide), fun e => absurd e (by cases b <;> decide), fun e => absurd e (by cases b <;> decide), fun e => absurd e (by cases b <;> decide), fun e => absurd e (by cases b <;> decide), fun e => absurd e (by cases b <;> decide), fun e => absurd e (by cases b <;> decide)⟩⟩
    · obtain ⟨A9, rfl, hs9⟩ := HR.out.h14 (by cases b <;> decide)
      have HROW := Lib.hid (row_any A9 3 [1, 2, 100] X hs9 (by decide) (by unfold rowOk; decide))
      clear hs9
      refine ⟨_, rfl, by rfl, fun K' hK => ?_⟩
      go_simp
      refine HROW.out.mono ?_
      rintro e Y ⟨⟨v9, rfl, ho9⟩, hb⟩
      obtain ⟨A8, c8, rfl, _⟩ := ho9.form
      have hrk := OwnV.rwOk (r := ⟨A8, c8, r1A⟩) ho9 (rowL_z (l := [1, 2, 100]) (by unfold rowOk; decide))
      have HU := HR.out.up hb
      exact hK.out _ _ ⟨(hB.trans (hb.mono hB.size)), (hB.trans (hb.mono hB.size)), b, 5, _, _, _, _, _, _, _, _, _, _, (fun h => absurd h (by decide)), (by cases b <;> decide +kernel), rfl, ⟨fun e => HU.h13 (by rw [isA_four] at e ⊢; exact e), fun _ => HU.h14 (by cases b <;> decide), fun _ => ⟨_, _, rfl, hrk⟩, fun _ => HU.h16 (by cases b <;> decide), fun e => absurd e (by cases b <;> decide), fun e => absurd e (by cases b <;> decide), fun e => absurd e (by cases b <;> decide), fun e => absurd e (by cases b <;> decide), fun e => absurd e (by cases b <;> decide), fun e => absurd e (by cases b <;> decide)⟩⟩
    · obtain ⟨A9, rfl, hs9⟩ := HR.out.h16 (by cases b <;> decide)
      have HROW := Lib.hid (row_any A9 3 [2, 2, 100] X hs9 (by decide) (by unfold rowOk; decide))
      clear hs9
      refine ⟨_, rfl, by rfl, fun K' hK => ?_⟩
      go_simp
      refine HROW.out.mono ?_
      rintro e Y ⟨⟨v9, rfl, ho9⟩, hb⟩
      obtain ⟨A8, c8, rfl, _⟩ := ho9.form
      have hrk := OwnV.rwOk (r := ⟨A8, c8, r2A⟩) ho9 (rowL_z (l := [2, 2, 100]) (by unfold rowOk; decide))
      have HU := HR.out.up hb
      exact hK.out _ _ ⟨(hB.trans (hb.mono hB.size)), (hB.trans (hb.mono hB.size)), b, 6, _, _, _, _, _, _, _, _, _, _, (fun h => absurd h (by decide)), (by cases b <;> decide +kernel), rfl, ⟨fun e => HU.h13 (by rw [isA_four] at e ⊢; exact e), fun _ => HU.h14 (by cases b <;> decide), fun _ => HU.h15 (by cases b <;> decide), fun _ => HU.h16 (by cases b <;> decide), fun _ => ⟨_, _, rfl, hrk⟩, fun e => absurd e (by cases b <;> decide), fun e => absurd e (by cases b <;> decide), fun e => absurd e (by cases b <;> decide), fun e => absurd e (by cases b <;> decide), fun e => absurd e (by cases b <;> decide)⟩⟩
    · obtain ⟨A7, c7, rfl, h7⟩ := HR.out.h15 (by cases b <;> decide)
      obtain ⟨A8, c8, rfl, h8⟩ := HR.out.h17 (by cases b <;> decide)
      have hb : Below X.heap.size X (X.alloc (.cells #[.slice A7 3 c7, .slice A8 3 c8] 46)) := (Below.refl _ _).alloc (Nat.le_refl _) _
      have HU := HR.out.up hb
      have hs : SlR (X.alloc (.cells #[.slice A7 3 c7, .slice A8 3 c8] 46)) (X.alloc (.cells #[.slice A7 3 c7, .slice A8 3 c8] 46)).heap.size (some ⟨X.heap.size, 0, none⟩) [⟨A7, c7, r1A⟩, ⟨A8, c8, r2A⟩] := ⟨sl1_lit cellR 46 X [⟨A7, c7, r1A⟩, ⟨A8, c8, r2A⟩], fun r hr => by
        rcases List.mem_cons.1 hr with rfl | hr
        · exact h7.up hb (Nat.le_refl _)
        · rw [List.mem_singleton.1 hr]; exact h8.up hb (Nat.le_refl _)⟩
      refine ⟨_, rfl, by rfl, fun K' hK => ?_⟩
      go_simp
      exact hK.out _ _ ⟨(hB.trans (hb.mono hB.size)), (hB.trans (hb.mono hB.size)), b, 7, _, _, _, _, _, _, _, _, _, _, (fun h => absurd h (by decide)), (by cases b <;> decide +kernel), rfl, ⟨fun e => HU.h13 (by rw [isA_four] at e ⊢; exact e), fun _ => HU.h14 (by cases b <;> decide), fun _ => HU.h15 (by cases b <;> decide), fun _ => HU.h16 (by cases b <;> decide), fun _ => HU.h17 (by cases b <;> decide), fun _ => ⟨_, _, rfl, hs, rowsA _ _ _ _⟩, fun e => absurd e (by cases b <;> decide), fun e => absurd e (by cases b <;> decide), fun e => absurd e (by cases b <;> decide), fun e => absurd e (by cases b <;> decide)⟩⟩
    · obtain ⟨A13, rfl, _⟩ := HR.out.h13 (by rw [isA_four]; exact hbt)
      obtain ⟨A18, R18, rfl, _, _⟩ := HR.out.h18 (by cases b <;> decide)
      have HU := HR.out
      have hb := Below.refl X.heap.size X
      refine ⟨_, rfl, by rfl, fun K' hK => ?_⟩
      go_simp
      exact hK.out _ _ ⟨(hB.trans (hb.mono hB.size)), (hB.trans (hb.mono hB.size)), b, 8, _, _, _, _, _, _, _, _, _, _, (fun h => hbt), (by cases b <;> decide +kernel), rfl, ⟨fun e => HU.h13 (by rw [isA_four] at e ⊢; exact e), fun _ => HU.h14 (by cases b <;> decide), fun _ => HU.h15 (by cases b <;> decide), fun _ => HU.h16 (by cases b <;> decide), fun _ => HU.h17 (by cases b <;> decide), fun _ => HU.h18 (by cases b <;> decide), fun _ => rfl, fun e => absurd e (by cases b <;> decide), fun e => absurd e (by cases b <;> decide), fun e => absurd e (by cases b <;> decide)⟩⟩
    · have hbt := hk8 (by decide)
      obtain ⟨A13, rfl, h13⟩ := HR.out.h13 (by rw [isA_four]; exact hbt)
      obtain ⟨A18, R18, rfl, h18, ht18⟩ := HR.out.h18 (by cases b <;> decide)
      obtain rfl := HR.out.h19 (by cases b <;> decide)
      have hX := HB3D.out.trans (hB.mono HB3D.out.size)
      have hl18 : R18.length = 2 := by rw [← txR_len, ht18]; exact lensA.2.2.2.2.2
      have HSM := Lib.hid (sameL_any A5 A6 A13 A18 c5 c6 3 2 c3A c3A R3 R18 X (Sl1.up HR3.out.1 hX (Nat.le_refl _)) h13 ⟨Sl1.up HA3.out hX (Nat.le_refl _), fun r hr => (OwnV.rwOk (HR3.out.2.1.i r hr) (HR3.out.2.1.z r hr)).up hX (Nat.le_refl _)⟩ h18 (by rw [lensA.2.2.1]; omega) (by rw [lensA.2.2.1]; omega) (by rw [HL3.out]; omega) (by omega))
      have e3 : (Value.slice A13 c3A.length 3) = .slice A13 3 3 := by rw [lensA.2.2.1]
      rw [HR3.out.2.2, ht18, sameB_yes, e3, hl18] at HSM
      clear h13 h18 hX
      refine ⟨_, rfl, by rfl, fun K' hK => ?_⟩
      go_simp
      refine HSM.out.mono ?_
      rintro e Y ⟨rfl, hb⟩
      have HU := HR.out.up hb
      exact hK.out _ _ ⟨(hB.trans (hb.mono hB.size)), (hB.trans (hb.mono hB.size)), b, 9, _, _, _, _, _, _, _, _, _, _, (fun h => hk8 (by decide)), (by cases b <;> decide +kernel), rfl, ⟨fun e => HU.h13 (by rw [isA_four] at e ⊢; exact e), fun _ => HU.h14 (by cases b <;> decide), fun _ => HU.h15 (by cases b <;> decide), fun _ => HU.h16 (by cases b <;> decide), fun _ => HU.h17 (by cases b <;> decide), fun _ => HU.h18 (by cases b <;> decide), fun _ => HU.h19 (by cases b <;> decide), fun _ => rfl, fun e => absurd e (by cases b <;> decide), fun e => absurd e (by cases b <;> decide)⟩⟩
    · obtain rfl := HR.out.h20 (by cases b <;> decide)
      have HU := HR.out
      have hb := Below.refl X.heap.size X
      refine ⟨_, rfl, by rfl, fun K' hK => ?_⟩
      go_simp
      exact hK.out _ _ ⟨(hB.trans (hb.mono hB.size)), (hB.trans (hb.mono hB.size)), b, 10, _, _, _, _, _, _, _, _, _, _, (fun h => hk8 (by decide)), (by cases b <;> decide +kernel), rfl, ⟨fun e => HU.h13 (by rw [isA_four] at e ⊢; exact e), fun _ => HU.h14 (by cases b <;> decide), fun _ => HU.h15 (by cases b <;> decide), fun _ => HU.h16 (by cases b <;> decide), fun _ => HU.h17 (by cases b <;> decide), fun _ => HU.h18 (by cases b <;> decide), fun _ => HU.h19 (by cases b <;> decide), fun _ => HU.h20 (by cases b <;> decide), fun _ => rfl, fun e => absurd e (by cases b <;> decide)⟩⟩
    · obtain rfl := HR.out.h21 (by cases b <;> decide)
      have HU := HR.out
      have hb := Below.refl X.heap.size X
      refine ⟨_, rfl, by rfl, fun K' hK => ?_⟩
      go_simp
      exact hK.out _ _ ⟨(hB.trans (hb.mono hB.size)), (hB.trans (hb.mono hB.size)), b, 11, _, _, _, _, _, _, _, _, _, _, (fun h => hk8 (by decide)), (by cases b <;> decide +kernel), rfl, ⟨fun e => HU.h13 (by rw [isA_four] at e ⊢; exact e), fun _ => HU.h14 (by cases b <;> decide), fun _ => HU.h15 (by cases b <;> decide), fun _ => HU.h16 (by cases b <;> decide), fun _ => HU.h17 (by cases b <;> decide), fun _ => HU.h18 (by cases b <;> decide), fun _ => HU.h19 (by cases b <;> decide), fun _ => HU.h20 (by cases b <;> decide), fun _ => HU.h21 (by cases b <;> decide), fun _ => rfl⟩⟩
  case hdone =>
    rintro L a X ⟨hB, b, k, s0, v13, v14, v15, v16, v17, v18, v19, v20, v21, hk8, rfl, rfl, HR⟩ hr
    have key : k = 11 := by
      clear HR hB
      revert hr
      revert hk8
      revert b k
      decide +kernel
    subst key
    obtain rfl := HR.out.h0 (by cases b <;> decide)
    go_wp2
    go_ret
    exact ⟨rfl, HBD.out.trans (hB.mono HBD.out.size)⟩
end Go.Proofs.Ytofmfainhflmmaa

/-
  PLAIN FACTS for RowsTurned: rows turned round, each twice, make the same relation.
-/
namespace Go.Proofs.Ytofmfainhflmmaa
open Go.RowKit

def twiceR {α : Type} (l : List α) : List α := l.reverse.flatMap fun x => [x, x]
theorem twice_mem {α : Type} {l : List α} {x : α} : x ∈ twiceR l ↔ x ∈ l := by
  unfold twiceR
  rw [List.mem_flatMap]
  constructor
  · rintro ⟨y, h1, h2⟩
    have : x = y := by simpa using h2
    rw [this]; exact List.mem_reverse.1 h1
  · intro h
    exact ⟨x, List.mem_reverse.2 h, by simp⟩
theorem twice_len {α : Type} {l : List α} : (twiceR l).length = 2 * l.length := by
  unfold twiceR
  induction l with
  | nil => rfl
  | cons x r ih => rw [List.reverse_cons, List.flatMap_append, List.length_append, ih]; simp; omega
theorem twice_tx {R : List Rw} : txR (twiceR R) = twiceR (txR R) := by
  unfold twiceR txR
  rw [List.map_flatMap, ← List.map_reverse, List.flatMap_map]
  rfl
theorem twice_step {α : Type} {l : List α} {k : Nat} {x : α} (h : l[k]? = some x) : twiceR (l.drop k) = twiceR (l.drop (k + 1)) ++ [x, x] := by
  obtain ⟨hk, e⟩ := List.getElem?_eq_some_iff.1 h
  unfold twiceR
  rw [List.drop_eq_getElem_cons hk, e, List.reverse_cons, List.flatMap_append]
  simp
theorem puts_twice {R : List Rw} : putsG ordR (txR (twiceR R)) = putsG ordR (txR R) := by
  rw [twice_tx]
  refine ups_uniq ordR_is _ _ (putsG_from ordR_is (twiceR (txR R)) [] List.Pairwise.nil).1 (putsG_from ordR_is (txR R) [] List.Pairwise.nil).1 fun z => ?_
  have h1 := (putsG_from ordR_is (twiceR (txR R)) [] List.Pairwise.nil).2 z
  have h2 := (putsG_from ordR_is (txR R) [] List.Pairwise.nil).2 z
  rw [show putsG ordR (twiceR (txR R)) = List.foldl (putG ordR) [] (twiceR (txR R)) from rfl, show putsG ordR (txR R) = List.foldl (putG ordR) [] (txR R) from rfl, h1, h2, twice_mem]
theorem long_twice {n : Nat} {R : List Rw} : longB n (twiceR R) = longB n R := by
  unfold longB
  rw [Bool.eq_iff_iff, List.all_eq_true, List.all_eq_true]
  exact ⟨fun h x hx => h x (twice_mem.2 hx), fun h x hx => h x (twice_mem.1 hx)⟩
theorem ofC_twice {cols : List ByteArray} {R : List Rw} : ofC cols (twiceR R) = ofC cols R := by unfold ofC; rw [long_twice, puts_twice]
/-- what is put: it rises, holds the same, is no longer -/
theorem puts_facts {T : List (List Vl)} : Ups ordR (putsG ordR T) ∧ (∀ z, z ∈ putsG ordR T ↔ z ∈ T) ∧ (putsG ordR T).length ≤ T.length := by
  refine ⟨(putsG_from ordR_is T [] List.Pairwise.nil).1, fun z => ?_, putsG_len T⟩
  have h := (putsG_from ordR_is T [] List.Pairwise.nil).2 z
  rw [show putsG ordR T = List.foldl (putG ordR) [] T from rfl, h]
  simp
theorem ups_neg {T : List (List Vl)} (h : Ups ordR T) {j : Nat} {x y : List Vl} (h1 : T[j]? = some x) (h2 : T[j + 1]? = some y) : ordR x y = -1 := by
  obtain ⟨a, e1⟩ := List.getElem?_eq_some_iff.1 h1
  obtain ⟨b, e2⟩ := List.getElem?_eq_some_iff.1 h2
  have h3 := List.pairwise_iff_getElem.1 h j (j + 1) a b (by omega)
  rw [e1, e2] at h3
  rcases ordR_range x y with h | h | h <;> omega
/-- what Of answered has its rows -/
theorem has_of {cols : List ByteArray} {R R2 : List Rw} {x : Rw} (h0 : ofC cols R = 0) (ht : txR R2 = putsG ordR (txR R)) (hx : x ∈ R) : hasRel cols R2 x.l = true := by
  have hf := puts_facts (T := txR R)
  unfold ofC at h0
  split at h0
  · rename_i hc
    split at h0
    · rename_i hlen
      have hm : mayRel cols R2 = true := by
        have b : longB cols.length R2 = true := by
          unfold longB
          rw [List.all_eq_true]
          intro r hr
          have : r.l ∈ txR R2 := List.mem_map_of_mem hr
          rw [ht] at this
          obtain ⟨q, hq, e⟩ := List.mem_map.1 ((hf.2.1 _).1 this)
          rw [← e]
          have := longB_all hc.2 q hq
          simpa using this
        have l : R2.length ≤ 100000 := by rw [← txR_len, ht]; exact hlen
        unfold mayRel upsB
        rw [hc.1, b, ht]
        simp [l, hf.1]
      unfold hasRel
      rw [hm, Bool.true_and]
      have hin : x.l ∈ txR R2 := by rw [ht]; exact (hf.2.1 _).2 (List.mem_map_of_mem hx)
      exact hasB_yes hin
    · omega
  · omega
/-- append of some rows that lie side by side -/
theorem wp_append_rows {o : Oper} {a : Act} {w : World} {K : Act → World → Prop} {Q : Exit → Act → World → Prop} (d : Option Tmp) (hd : o.dst = d) (s x : Operand) (ho : o.op = .call { callee := .builtin .append, args := #[s, x], argTypes := #[32, 32] })
    (base : Nat) (v : Value) (l : List Rw) (hs : a.eval s = v) (hown : Own1 46 cellR w base v l) (rs : List Rw) (b m : Nat) (hm : rs.length = m) (hx : a.eval x = .slice (some ⟨b, 0, none⟩) m m)
    (hc : ∀ (j : Nat) r, rs[j]? = some r → w.cell? ⟨b, j, none⟩ = some (cellR r)) (hl : l.length ≤ 1000000000) (hl2 : m ≤ 1000) (hlo : base ≤ w.heap.size)
    (h : ∀ v' w', Own1 46 cellR w' base v' (l ++ rs) → w.grownBy w' v.ownBlock → K (a.put d v') w') : o.wp Try.prog a w K Q := by
  subst hd
  obtain ⟨i0, hi, hz0, hz1, hz2⟩ := info_parts infoR
  have hmx : 2000000000 ≤ maxLen := by decide
  obtain ⟨v', w', hr, h2, h3, _, h5⟩ := run_append_own_at (P := Try.prog) w base 32 o.type 46 i0 (.slice none 0 0) 1 24 Try.underlying32 hi hz0 hz1 hz2 rfl (by decide) v l.length (l.map cellR) hown ⟨b, 0, none⟩ m m (rs.map cellR) (by rw [List.length_map, hm, Nat.mul_one]) (fun j u hu => by
      rw [List.getElem?_map] at hu
      cases hrj : rs[j]? with
      | none => rw [hrj] at hu; cases hu
      | some r =>
        rw [hrj] at hu
        rw [addI, Nat.zero_add, hc j r hrj]
        exact hu) (fun u hu => by obtain ⟨x, _, rfl⟩ := List.mem_map.1 hu; rfl) (by omega) (by omega) hlo
  unfold Oper.wp execOp
  simp only [ho, resolve, invoke, builtin, Sem.run_bind, Sem.run_pure, Result.andThen_ok, List.map_toArray, List.map_cons, List.map_nil, hs, hx, hr]
  exact h v' w' (own1_of h2) h3
/-- Of's answer, of whichever case -/
theorem of_own {w w' : World} {cols : List ByteArray} {R : List Rw} {e : Ending} (h : OfEnd w cols R e w') :
    Below w.heap.size w w' ∧ ∃ A5 c5 A6 c6 C5 R6, e = .returned (.tuple #[.agg #[.slice A5 (List.length C5) c5, .slice A6 (List.length R6) c6], .int .i64 (ofC cols R)]) ∧ OwnC w' w.heap.size (.slice A5 C5.length c5) C5 ∧ OwnR w' w.heap.size (.slice A6 R6.length c6) R6 ∧ C5 = (if ofC cols R = 0 then cols else []) ∧ txR R6 = (if ofC cols R = 0 then putsG ordR (txR R) else []) := by
  obtain ⟨hb, vc, vr, rfl, hq⟩ := h
  refine ⟨hb, ?_⟩
  rcases hq with ⟨h0, hoc, R', hor, ht⟩ | ⟨h0, rfl, rfl⟩
  · obtain ⟨A5, c5, rfl, _⟩ := Own1.form hoc
    obtain ⟨A6, c6, rfl, _⟩ := hor.form
    exact ⟨A5, c5, A6, c6, cols, R', rfl, hoc, hor, by rw [if_pos h0], by rw [if_pos h0]; exact ht⟩
  · exact ⟨none, 0, none, 0, [], [], rfl, own1_nil _ _ _ _, ownR_nil _ _, by rw [if_neg h0], by rw [if_neg h0]; rfl⟩
end Go.Proofs.Ytofmfainhflmmaa
