/-
  CONTRACTS: entityNode; the document's who.
-/
import Derived.Test.YtdjdlfndmeegnaaDoorKEnode
import Derived.Test.YtdjdlfndmeegnaaDoorRegion
import Derived.Deep.RegionHeld3
import Derived.Deep.RegionWith
namespace Go.Proofs.YtdjdlfndmeegnaaDoor
open Go.RowKit
open Go.Deep

set_option maxRecDepth 100000 in
set_option maxHeartbeats 1000000 in
theorem entNode_x (k : Int) (n : Int) (nm : ByteArray) (vk vn : Int) (vs : ByteArray) (w : World) (h1 : ¬ k = 1) (h2 : ¬ k = 2) :
    Calls Tryd.prog 17 #[.agg #[.int .i64 k, .int .i64 n, .string nm, .int .i64 vk, .int .i64 vn, .string vs]] w (NdEnd w 1 (entN ⟨k, n, nm, vk, vn, vs⟩)) := by
  rw [entN_x n nm vk vn vs h1 h2]
  obtain ⟨w0, hw0⟩ : ∃ w0, (w.alloc (.cells #[.int .i64 k, .int .i64 n, .string nm, .int .i64 vk, .int .i64 vn, .string vs] 25)).alloc (.cells #[.int .i64 0, .int .i64 0, .int .i64 0, .string ⟨#[]⟩, .string ⟨#[]⟩, .slice none 0 0, .int .i64 0, .int .i64 0] 35) = w0 := ⟨_, rfl⟩
  have HS0 : Hid (SBx w #[.int .i64 k, .int .i64 n, .string nm, .int .i64 vk, .int .i64 vn, .string vs] 25 w0) := by rw [← hw0]; exact sbx_new w _ _
  go_enter Tryd.func17, Tryd.ntmps17
  go_upto_region 1 with (fail)
  try rw [hw0]
  clear hw0
  have c0 : w0.cell? ⟨w.heap.size, 0, none⟩ = some (.int .i64 k) := HS0.out.x.cell 0
  have c1 : w0.cell? ⟨w.heap.size, 1, none⟩ = some (.int .i64 n) := HS0.out.x.cell 1
  have c2 : w0.cell? ⟨w.heap.size, 2, none⟩ = some (.string nm) := HS0.out.x.cell 2
  have c3 : w0.cell? ⟨w.heap.size, 3, none⟩ = some (.int .i64 vk) := HS0.out.x.cell 3
  have c4 : w0.cell? ⟨w.heap.size, 4, none⟩ = some (.int .i64 vn) := HS0.out.x.cell 4
  have c5 : w0.cell? ⟨w.heap.size, 5, none⟩ = some (.string vs) := HS0.out.x.cell 5
  go_upto_region 6 with (fail)
  clear c0 c1 c2 c3 c4 c5
  refine wp_region_held_drew (S := SBx w #[.int .i64 k, .int .i64 n, .string nm, .int .i64 vk, .int .i64 vn, .string vs] 25) (by kernel_rfl) (HS0.out.next (Below.refl _ _).drew) (fun hHeld => ?_)
  refine takeV 0 (some 16) (.pointer (some ⟨w.heap.size, 2, none⟩)) rfl rfl (by kernel_rfl) (by kernel_rfl) (by kernel_rfl) (fun _ _ _ h => h) (by rfl) (by (intro _w _hSw; (try dsimp only at _hSw); go_simp)) (by assumption) ?_
  simp only [Act.put, List.setIfInBounds_toArray, List.set_cons_zero, List.set_cons_succ]
  refine takeV 1 (some 17) (.string nm) rfl rfl (by kernel_rfl) (by kernel_rfl) (by kernel_rfl) (fun _ _ _ h => h) (by rfl) (by (intro _w hSw; (have q2 := hSw.x.cell 2); clear hSw; go_simp)) (by assumption) ?_
  simp only [Act.put, List.setIfInBounds_toArray, List.set_cons_zero, List.set_cons_succ]
  refine takeV 3 (some 19) (.pointer (some ⟨w.heap.size, 3, none⟩)) rfl rfl (by kernel_rfl) (by kernel_rfl) (by kernel_rfl) (fun _ _ _ h => h) (by rfl) (by (intro _w _hSw; (try dsimp only at _hSw); go_simp)) (by assumption) ?_
  simp only [Act.put, List.setIfInBounds_toArray, List.set_cons_zero, List.set_cons_succ]
  refine takeV 4 (some 20) (.agg #[.int .i64 vk, .int .i64 vn, .string vs]) rfl rfl (by kernel_rfl) (by kernel_rfl) (by kernel_rfl) (fun _ _ _ h => h) (by rfl) (by (intro _w hSw; (have q3 := hSw.x.cell 3; have q4 := hSw.x.cell 4; have q5 := hSw.x.cell 5); clear hSw; go_simp)) (by assumption) ?_
  simp only [Act.put, List.setIfInBounds_toArray, List.set_cons_zero, List.set_cons_succ]
  refine callV 2 rfl (by kernel_rfl) (by rfl) (fun K hK => ?_)
  go_simp
  refine (wordOf_any nm _).mono ?_
  rintro e9 w1 ⟨rfl, hb1⟩
  refine hK.out _ _ (hHeld.next hb1) (fun hHeld1 => ?_)
  clear hK K hb1 hHeld
  try simp only [Act.put, List.setIfInBounds_toArray, List.set_cons_zero, List.set_cons_succ]
  refine callV 5 rfl (by kernel_rfl) (by rfl) (fun K hK => ?_)
  go_simp
  refine (pairNode_any 7 0 nm vk vn vs _).mono ?_
  rintro e9 w2 ⟨KK, cc, he, hsl, hb2⟩
  obtain rfl : e9 = .returned (.agg #[.int .i64 4, .int .i64 0, .int .i64 0, .string ⟨#[]⟩, .string ⟨#[]⟩, .slice KK 2 cc, .int .i64 0, .int .i64 0]) := he
  have hz1 := hHeld1.size
  refine hK.out _ _ (hHeld1.next hb2) (fun hHeld2 => ?_)
  clear hK K hHeld1
  have HX := Lib.hid hHeld2
  have HL := Lib.hid hsl
  have hz2 := hb2.size
  clear hsl hb2
  try simp only [Act.put, List.setIfInBounds_toArray, List.set_cons_zero, List.set_cons_succ]
  obtain ⟨cs, hcs, hz⟩ := hHeld2.z
  obtain ⟨z0, z1, z2, z3, z4, z5, z6, z7, rfl⟩ := arr8 hcs
  have zc0 : w2.cell? ⟨w.heap.size + 1, 0, none⟩ = some z0 := hz.cell 0
  have zf0 := hz.fz 0
  have zc1 : w2.cell? ⟨w.heap.size + 1, 1, none⟩ = some z1 := hz.cell 1
  have zf1 := hz.fz 1
  have zc2 : w2.cell? ⟨w.heap.size + 1, 2, none⟩ = some z2 := hz.cell 2
  have zf2 := hz.fz 2
  have zc3 : w2.cell? ⟨w.heap.size + 1, 3, none⟩ = some z3 := hz.cell 3
  have zf3 := hz.fz 3
  have zc4 : w2.cell? ⟨w.heap.size + 1, 4, none⟩ = some z4 := hz.cell 4
  have zf4 := hz.fz 4
  have zc5 : w2.cell? ⟨w.heap.size + 1, 5, none⟩ = some z5 := hz.cell 5
  have zf5 := hz.fz 5
  have zc6 : w2.cell? ⟨w.heap.size + 1, 6, none⟩ = some z6 := hz.cell 6
  have zf6 := hz.fz 6
  have zc7 : w2.cell? ⟨w.heap.size + 1, 7, none⟩ = some z7 := hz.cell 7
  have zf7 := hz.fz 7
  refine callV 6 rfl (by kernel_rfl) (by rfl) (fun K hK => ?_)
  go_simp
  have hz9 := hz.set8 (.int .i64 4) (.int .i64 0) (.int .i64 0) (.string ⟨#[]⟩) (.string ⟨#[]⟩) (.slice KK 2 cc) (.int .i64 0) (.int .i64 0)
  have hb9 := below_set8 (W := w2) (B := w.heap.size + 1) (b := w.heap.size + 1) (Nat.le_refl _) (.int .i64 4) (.int .i64 0) (.int .i64 0) (.string ⟨#[]⟩) (.string ⟨#[]⟩) (.slice KK 2 cc) (.int .i64 0) (.int .i64 0)
  have hs9 := size_set8 (W := w2) (b := w.heap.size + 1) (.int .i64 4) (.int .i64 0) (.int .i64 0) (.string ⟨#[]⟩) (.string ⟨#[]⟩) (.slice KK 2 cc) (.int .i64 0) (.int .i64 0)
  have hk9 : ∀ b', w.heap.size + 1 < b' → ((((((((w2.setCell ⟨w.heap.size + 1, 0, none⟩ (.int .i64 4)).setCell ⟨w.heap.size + 1, 1, none⟩ (.int .i64 0)).setCell ⟨w.heap.size + 1, 2, none⟩ (.int .i64 0)).setCell ⟨w.heap.size + 1, 3, none⟩ (.string ⟨#[]⟩)).setCell ⟨w.heap.size + 1, 4, none⟩ (.string ⟨#[]⟩)).setCell ⟨w.heap.size + 1, 5, none⟩ (.slice KK 2 cc)).setCell ⟨w.heap.size + 1, 6, none⟩ (.int .i64 0)).setCell ⟨w.heap.size + 1, 7, none⟩ (.int .i64 0)).heap[b']? = w2.heap[b']? := fun b' hb' => heap_off8 (by omega) (.int .i64 4) (.int .i64 0) (.int .i64 0) (.string ⟨#[]⟩) (.string ⟨#[]⟩) (.slice KK 2 cc) (.int .i64 0) (.int .i64 0)
  obtain ⟨w9, hw9⟩ : ∃ w9, ((((((((w2.setCell ⟨w.heap.size + 1, 0, none⟩ (.int .i64 4)).setCell ⟨w.heap.size + 1, 1, none⟩ (.int .i64 0)).setCell ⟨w.heap.size + 1, 2, none⟩ (.int .i64 0)).setCell ⟨w.heap.size + 1, 3, none⟩ (.string ⟨#[]⟩)).setCell ⟨w.heap.size + 1, 4, none⟩ (.string ⟨#[]⟩)).setCell ⟨w.heap.size + 1, 5, none⟩ (.slice KK 2 cc)).setCell ⟨w.heap.size + 1, 6, none⟩ (.int .i64 0)).setCell ⟨w.heap.size + 1, 7, none⟩ (.int .i64 0)) = w9 := ⟨_, rfl⟩
  rw [hw9] at hz9 hb9 hs9 hk9 ⊢
  clear hw9
  have HZ9 := Lib.hid hz9
  have HB9 : Hid (Below w.heap.size w w9) := HX.out.below.trans (hb9.mono (by omega))
  have HSL : Hid (SlN 1 w9 (Fr w.heap.size w9) (KK) (prN (valN 7 0 nm) (valN vk vn vs)).kids) := (HL.out.fr (fun b hb => hk9 b (by have := hb.1; omega)) (by omega) (by omega))
  have hS9 : SBx w #[.int .i64 k, .int .i64 n, .string nm, .int .i64 vk, .int .i64 vn, .string vs] 25 w9 := ⟨HX.out.x.next hb9 (by omega), ⟨_, rfl, hz9⟩, HB9.out⟩
  clear zc0 zf0 zc1 zf1 zc2 zf2 zc3 zf3 zc4 zf4 zc5 zf5 zc6 zf6 zc7 zf7
  clear hz9 hb9 hs9 hk9
  refine hK.out _ _ hS9 (fun hHeld9 => ?_)
  clear hK K
  try simp only [Act.put, List.setIfInBounds_toArray, List.set_cons_zero, List.set_cons_succ]
  refine wpAnyH_done (by kernel_rfl) ?_ _
  go_wp2
  refine bodyPost_ret (v := .agg #[.int .i64 4, .int .i64 0, .int .i64 0, .string ⟨#[]⟩, .string ⟨#[]⟩, .slice KK 2 cc, .int .i64 0, .int .i64 0]) ?_ rfl ⟨KK, cc, rfl, HSL.out, HB9.out⟩
  exact results_cell_row rfl _ w9 (w.heap.size + 1) 35 _ (0, 0) _ rfl HZ9.out Tryd.underlying35 rfl sizeNd

set_option maxRecDepth 100000 in
set_option maxHeartbeats 1000000 in
theorem refWho_x (k : Int) (n : Int) (nm : ByteArray) (vk vn : Int) (vs : ByteArray) (w : World) (h1 : ¬ k = 1) (h2 : ¬ k = 2) :
    Calls Tryd.prog 44 #[.agg #[.int .i64 k, .int .i64 n, .string nm, .int .i64 vk, .int .i64 vn, .string vs]] w (NdEnd w 1 (entN ⟨k, n, nm, vk, vn, vs⟩)) := by
  rw [entN_x n nm vk vn vs h1 h2]
  obtain ⟨w0, hw0⟩ : ∃ w0, (w.alloc (.cells #[.int .i64 k, .int .i64 n, .string nm, .int .i64 vk, .int .i64 vn, .string vs] 25)).alloc (.cells #[.int .i64 0, .int .i64 0, .int .i64 0, .string ⟨#[]⟩, .string ⟨#[]⟩, .slice none 0 0, .int .i64 0, .int .i64 0] 35) = w0 := ⟨_, rfl⟩
  have HS0 : Hid (SBx w #[.int .i64 k, .int .i64 n, .string nm, .int .i64 vk, .int .i64 vn, .string vs] 25 w0) := by rw [← hw0]; exact sbx_new w _ _
  go_enter Tryd.func44, Tryd.ntmps44
  go_upto_region 1 with (fail)
  try rw [hw0]
  clear hw0
  have c0 : w0.cell? ⟨w.heap.size, 0, none⟩ = some (.int .i64 k) := HS0.out.x.cell 0
  have c1 : w0.cell? ⟨w.heap.size, 1, none⟩ = some (.int .i64 n) := HS0.out.x.cell 1
  have c2 : w0.cell? ⟨w.heap.size, 2, none⟩ = some (.string nm) := HS0.out.x.cell 2
  have c3 : w0.cell? ⟨w.heap.size, 3, none⟩ = some (.int .i64 vk) := HS0.out.x.cell 3
  have c4 : w0.cell? ⟨w.heap.size, 4, none⟩ = some (.int .i64 vn) := HS0.out.x.cell 4
  have c5 : w0.cell? ⟨w.heap.size, 5, none⟩ = some (.string vs) := HS0.out.x.cell 5
  go_upto_region 5 with (fail)
  clear c0 c1 c2 c3 c4 c5
  refine wp_region_held_drew (S := SBx w #[.int .i64 k, .int .i64 n, .string nm, .int .i64 vk, .int .i64 vn, .string vs] 25) (by kernel_rfl) (HS0.out.next (Below.refl _ _).drew) (fun hHeld => ?_)
  refine takeV 0 (some 16) (.pointer (some ⟨w.heap.size, 2, none⟩)) rfl rfl (by kernel_rfl) (by kernel_rfl) (by kernel_rfl) (fun _ _ _ h => h) (by rfl) (by (intro _w _hSw; (try dsimp only at _hSw); go_simp)) (by assumption) ?_
  simp only [Act.put, List.setIfInBounds_toArray, List.set_cons_zero, List.set_cons_succ]
  refine takeV 1 (some 17) (.string nm) rfl rfl (by kernel_rfl) (by kernel_rfl) (by kernel_rfl) (fun _ _ _ h => h) (by rfl) (by (intro _w hSw; (have q2 := hSw.x.cell 2); clear hSw; go_simp)) (by assumption) ?_
  simp only [Act.put, List.setIfInBounds_toArray, List.set_cons_zero, List.set_cons_succ]
  refine takeV 2 (some 18) (.agg #[.int .i64 7, .int .i64 0, .string nm]) rfl rfl (by kernel_rfl) (by kernel_rfl) (by kernel_rfl) (fun _ _ _ h => h) (by rfl) (by (intro _w _hSw; (try dsimp only at _hSw); go_simp)) (by assumption) ?_
  simp only [Act.put, List.setIfInBounds_toArray, List.set_cons_zero, List.set_cons_succ]
  refine takeV 4 (some 20) (.pointer (some ⟨w.heap.size, 3, none⟩)) rfl rfl (by kernel_rfl) (by kernel_rfl) (by kernel_rfl) (fun _ _ _ h => h) (by rfl) (by (intro _w _hSw; (try dsimp only at _hSw); go_simp)) (by assumption) ?_
  simp only [Act.put, List.setIfInBounds_toArray, List.set_cons_zero, List.set_cons_succ]
  refine takeV 5 (some 21) (.agg #[.int .i64 vk, .int .i64 vn, .string vs]) rfl rfl (by kernel_rfl) (by kernel_rfl) (by kernel_rfl) (fun _ _ _ h => h) (by rfl) (by (intro _w hSw; (have q3 := hSw.x.cell 3; have q4 := hSw.x.cell 4; have q5 := hSw.x.cell 5); clear hSw; go_simp)) (by assumption) ?_
  simp only [Act.put, List.setIfInBounds_toArray, List.set_cons_zero, List.set_cons_succ]
  refine callV 3 rfl (by kernel_rfl) (by rfl) (fun K hK => ?_)
  go_simp
  refine (refValue_any 7 0 nm _).mono ?_
  rintro e9 w1 ⟨rfl, hb1⟩
  refine hK.out _ _ (hHeld.next hb1) (fun hHeld1 => ?_)
  clear hK K hb1 hHeld
  try simp only [Act.put, List.setIfInBounds_toArray, List.set_cons_zero, List.set_cons_succ]
  refine callV 6 rfl (by kernel_rfl) (by rfl) (fun K hK => ?_)
  go_simp
  refine (refValue_any vk vn vs _).mono ?_
  rintro e9 w2 ⟨rfl, hb2⟩
  refine hK.out _ _ (hHeld1.next hb2) (fun hHeld2 => ?_)
  clear hK K hHeld1 hb2
  try simp only [Act.put, List.setIfInBounds_toArray, List.set_cons_zero, List.set_cons_succ]
  refine callV 7 rfl (by kernel_rfl) (by rfl) (fun K hK => ?_)
  go_simp
  have HQ : Hid (Blk (w2.alloc (.cells #[.int .i64 1, .int .i64 7, .int .i64 0, .string nm, .string ⟨#[]⟩, .slice none 0 0, .int .i64 0, .int .i64 0, .int .i64 1, .int .i64 vk, .int .i64 vn, .string vs, .string ⟨#[]⟩, .slice none 0 0, .int .i64 0, .int .i64 0] 35)) w2.heap.size #[.int .i64 1, .int .i64 7, .int .i64 0, .string nm, .string ⟨#[]⟩, .slice none 0 0, .int .i64 0, .int .i64 0, .int .i64 1, .int .i64 vk, .int .i64 vn, .string vs, .string ⟨#[]⟩, .slice none 0 0, .int .i64 0, .int .i64 0] 35) := Blk.new _ _ _
  have HB7 : Hid (Below w2.heap.size w2 (w2.alloc (.cells #[.int .i64 1, .int .i64 7, .int .i64 0, .string nm, .string ⟨#[]⟩, .slice none 0 0, .int .i64 0, .int .i64 0, .int .i64 1, .int .i64 vk, .int .i64 vn, .string vs, .string ⟨#[]⟩, .slice none 0 0, .int .i64 0, .int .i64 0] 35))) := (Below.refl _ _).alloc (Nat.le_refl _) _
  have hz2 := hHeld2.size
  refine hK.out _ _ (hHeld2.next HB7.out) (fun hHeld3 => ?_)
  clear hK K hHeld2
  obtain ⟨w3, hw3⟩ : ∃ w3, w2.alloc (.cells #[.int .i64 1, .int .i64 7, .int .i64 0, .string nm, .string ⟨#[]⟩, .slice none 0 0, .int .i64 0, .int .i64 0, .int .i64 1, .int .i64 vk, .int .i64 vn, .string vs, .string ⟨#[]⟩, .slice none 0 0, .int .i64 0, .int .i64 0] 35) = w3 := ⟨_, rfl⟩
  rw [hw3] at hHeld3 HQ HB7 ⊢
  clear hw3
  have HX := Lib.hid hHeld3
  have HQL : Hid (SlN 1 w3 (Fr w2.heap.size w3) (some ⟨w2.heap.size, 0, none⟩) (prN (valN 7 0 nm) (valN vk vn vs)).kids) := prN_cells HQ.out ⟨Nat.le_refl _, HQ.out.lt, HQ.out.cell 0⟩
  have hz3 := HQ.out.lt
  try simp only [Act.put, List.setIfInBounds_toArray, List.set_cons_zero, List.set_cons_succ]
  refine takeV 8 (some 24) (.agg #[.int .i64 4, .int .i64 0, .int .i64 0, .string ⟨#[]⟩, .string ⟨#[]⟩, .slice (some ⟨w2.heap.size, 0, none⟩) 2 2, .int .i64 0, .int .i64 0]) rfl rfl (by kernel_rfl) (by kernel_rfl) (by kernel_rfl) (fun _ _ _ h => h) (by rfl) (by (intro _w _hSw; (try dsimp only at _hSw); go_simp)) (by assumption) ?_
  simp only [Act.put, List.setIfInBounds_toArray, List.set_cons_zero, List.set_cons_succ]
  obtain ⟨cs, hcs, hz⟩ := hHeld3.z
  obtain ⟨z0, z1, z2, z3, z4, z5, z6, z7, rfl⟩ := arr8 hcs
  have zc0 : w3.cell? ⟨w.heap.size + 1, 0, none⟩ = some z0 := hz.cell 0
  have zf0 := hz.fz 0
  have zc1 : w3.cell? ⟨w.heap.size + 1, 1, none⟩ = some z1 := hz.cell 1
  have zf1 := hz.fz 1
  have zc2 : w3.cell? ⟨w.heap.size + 1, 2, none⟩ = some z2 := hz.cell 2
  have zf2 := hz.fz 2
  have zc3 : w3.cell? ⟨w.heap.size + 1, 3, none⟩ = some z3 := hz.cell 3
  have zf3 := hz.fz 3
  have zc4 : w3.cell? ⟨w.heap.size + 1, 4, none⟩ = some z4 := hz.cell 4
  have zf4 := hz.fz 4
  have zc5 : w3.cell? ⟨w.heap.size + 1, 5, none⟩ = some z5 := hz.cell 5
  have zf5 := hz.fz 5
  have zc6 : w3.cell? ⟨w.heap.size + 1, 6, none⟩ = some z6 := hz.cell 6
  have zf6 := hz.fz 6
  have zc7 : w3.cell? ⟨w.heap.size + 1, 7, none⟩ = some z7 := hz.cell 7
  have zf7 := hz.fz 7
  refine callV 9 rfl (by kernel_rfl) (by rfl) (fun K hK => ?_)
  go_simp
  have hz9 := hz.set8 (.int .i64 4) (.int .i64 0) (.int .i64 0) (.string ⟨#[]⟩) (.string ⟨#[]⟩) (.slice (some ⟨w2.heap.size, 0, none⟩) 2 2) (.int .i64 0) (.int .i64 0)
  have hb9 := below_set8 (W := w3) (B := w.heap.size + 1) (b := w.heap.size + 1) (Nat.le_refl _) (.int .i64 4) (.int .i64 0) (.int .i64 0) (.string ⟨#[]⟩) (.string ⟨#[]⟩) (.slice (some ⟨w2.heap.size, 0, none⟩) 2 2) (.int .i64 0) (.int .i64 0)
  have hs9 := size_set8 (W := w3) (b := w.heap.size + 1) (.int .i64 4) (.int .i64 0) (.int .i64 0) (.string ⟨#[]⟩) (.string ⟨#[]⟩) (.slice (some ⟨w2.heap.size, 0, none⟩) 2 2) (.int .i64 0) (.int .i64 0)
  have hk9 : ∀ b', w.heap.size + 1 < b' → ((((((((w3.setCell ⟨w.heap.size + 1, 0, none⟩ (.int .i64 4)).setCell ⟨w.heap.size + 1, 1, none⟩ (.int .i64 0)).setCell ⟨w.heap.size + 1, 2, none⟩ (.int .i64 0)).setCell ⟨w.heap.size + 1, 3, none⟩ (.string ⟨#[]⟩)).setCell ⟨w.heap.size + 1, 4, none⟩ (.string ⟨#[]⟩)).setCell ⟨w.heap.size + 1, 5, none⟩ (.slice (some ⟨w2.heap.size, 0, none⟩) 2 2)).setCell ⟨w.heap.size + 1, 6, none⟩ (.int .i64 0)).setCell ⟨w.heap.size + 1, 7, none⟩ (.int .i64 0)).heap[b']? = w3.heap[b']? := fun b' hb' => heap_off8 (by omega) (.int .i64 4) (.int .i64 0) (.int .i64 0) (.string ⟨#[]⟩) (.string ⟨#[]⟩) (.slice (some ⟨w2.heap.size, 0, none⟩) 2 2) (.int .i64 0) (.int .i64 0)
  obtain ⟨w9, hw9⟩ : ∃ w9, ((((((((w3.setCell ⟨w.heap.size + 1, 0, none⟩ (.int .i64 4)).setCell ⟨w.heap.size + 1, 1, none⟩ (.int .i64 0)).setCell ⟨w.heap.size + 1, 2, none⟩ (.int .i64 0)).setCell ⟨w.heap.size + 1, 3, none⟩ (.string ⟨#[]⟩)).setCell ⟨w.heap.size + 1, 4, none⟩ (.string ⟨#[]⟩)).setCell ⟨w.heap.size + 1, 5, none⟩ (.slice (some ⟨w2.heap.size, 0, none⟩) 2 2)).setCell ⟨w.heap.size + 1, 6, none⟩ (.int .i64 0)).setCell ⟨w.heap.size + 1, 7, none⟩ (.int .i64 0)) = w9 := ⟨_, rfl⟩
  rw [hw9] at hz9 hb9 hs9 hk9 ⊢
  clear hw9
  have HZ9 := Lib.hid hz9
  have HB9 : Hid (Below w.heap.size w w9) := HX.out.below.trans (hb9.mono (by omega))
  have HSL : Hid (SlN 1 w9 (Fr w.heap.size w9) (some ⟨w2.heap.size, 0, none⟩) (prN (valN 7 0 nm) (valN vk vn vs)).kids) := (HQL.out.fr (fun b hb => hk9 b (by have := hb.1; omega)) (by omega) (by omega))
  have hS9 : SBx w #[.int .i64 k, .int .i64 n, .string nm, .int .i64 vk, .int .i64 vn, .string vs] 25 w9 := ⟨HX.out.x.next hb9 (by omega), ⟨_, rfl, hz9⟩, HB9.out⟩
  clear zc0 zf0 zc1 zf1 zc2 zf2 zc3 zf3 zc4 zf4 zc5 zf5 zc6 zf6 zc7 zf7
  clear hz9 hb9 hs9 hk9
  refine hK.out _ _ hS9 (fun hHeld9 => ?_)
  clear hK K
  try simp only [Act.put, List.setIfInBounds_toArray, List.set_cons_zero, List.set_cons_succ]
  refine wpAnyH_done (by kernel_rfl) ?_ _
  go_wp2
  refine bodyPost_ret (v := .agg #[.int .i64 4, .int .i64 0, .int .i64 0, .string ⟨#[]⟩, .string ⟨#[]⟩, .slice (some ⟨w2.heap.size, 0, none⟩) 2 2, .int .i64 0, .int .i64 0]) ?_ rfl ⟨some ⟨w2.heap.size, 0, none⟩, 2, rfl, HSL.out, HB9.out⟩
  exact results_cell_row rfl _ w9 (w.heap.size + 1) 35 _ (0, 0) _ rfl HZ9.out Tryd.underlying35 rfl sizeNd
/-- CONTRACT: claim.entityNode. -/
theorem entNode_any (x : En) (w : World) : Calls Tryd.prog 17 #[.agg #[.int .i64 x.k, .int .i64 x.n, .string x.nm, .int .i64 x.vk, .int .i64 x.vn, .string x.vs]] w (NdEnd w 1 (entN x)) := by
  obtain ⟨k, n, nm, vk, vn, vs⟩ := x
  by_cases h1 : k = 1
  · subst h1; exact entNode_1 n nm vk vn vs w
  by_cases h2 : k = 2
  · subst h2; exact entNode_2 n nm vk vn vs w
  exact entNode_x k n nm vk vn vs w h1 h2
/-- CONTRACT: daybookref08.who. -/
theorem refWho_any (x : En) (w : World) : Calls Tryd.prog 44 #[.agg #[.int .i64 x.k, .int .i64 x.n, .string x.nm, .int .i64 x.vk, .int .i64 x.vn, .string x.vs]] w (NdEnd w 1 (entN x)) := by
  obtain ⟨k, n, nm, vk, vn, vs⟩ := x
  by_cases h1 : k = 1
  · subst h1; exact refWho_1 n nm vk vn vs w
  by_cases h2 : k = 2
  · subst h2; exact refWho_2 n nm vk vn vs w
  exact refWho_x k n nm vk vn vs w h1 h2

end Go.Proofs.YtdjdlfndmeegnaaDoor
