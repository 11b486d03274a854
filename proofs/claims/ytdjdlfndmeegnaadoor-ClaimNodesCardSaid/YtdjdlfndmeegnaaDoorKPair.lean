/-
  CONTRACT: pairNode.
-/
import Derived.Test.YtdjdlfndmeegnaaDoorKNode
import Derived.Test.YtdjdlfndmeegnaaDoorRegion
import Derived.Deep.RegionHeld3
import Derived.Deep.RegionWith
namespace Go.Proofs.YtdjdlfndmeegnaaDoor
open Go.RowKit
open Go.Deep

/-- what the region keeps -/
structure SPr (w : World) (k n : Int) (s : ByteArray) (k' n' : Int) (s' : ByteArray) (W : World) : Prop where
  x : Blk W w.heap.size #[.int .i64 k, .int .i64 n, .string s] 23
  y : Blk W (w.heap.size + 1) #[.int .i64 k', .int .i64 n', .string s'] 23
  z : ∃ cs, cs.size = 8 ∧ Blk W (w.heap.size + 1 + 1) cs 35
  below : Below w.heap.size w W
theorem SPr.size {w : World} {k n : Int} {s : ByteArray} {k' n' : Int} {s' : ByteArray} {W : World} (h : SPr w k n s k' n' s' W) : w.heap.size + 3 ≤ W.heap.size := by obtain ⟨cs, _, h⟩ := h.z; have := h.lt; omega
theorem SPr.next {w : World} {k n : Int} {s : ByteArray} {k' n' : Int} {s' : ByteArray} {W W' : World} (h : SPr w k n s k' n' s' W) (hb : Below W.heap.size W W') : SPr w k n s k' n' s' W' :=
  ⟨h.x.next hb h.x.lt, h.y.next hb h.y.lt, by obtain ⟨cs, h1, h2⟩ := h.z; exact ⟨cs, h1, h2.next hb h2.lt⟩, h.below.trans (hb.mono (by have := h.size; omega))⟩
theorem sizeNd : (Tryd.prog.info? 35).map (·.size) = some 8 := by kernel_rfl
theorem prN_cells {W : World} {b : Nat} {B : Nat → Prop} {k n : Int} {s : ByteArray} {k' n' : Int} {s' : ByteArray} {t : TypeId} (h : Blk W b #[.int .i64 1, .int .i64 k, .int .i64 n, .string s, .string ⟨#[]⟩, .slice none 0 0, .int .i64 0, .int .i64 0, .int .i64 1, .int .i64 k', .int .i64 n', .string s', .string ⟨#[]⟩, .slice none 0 0, .int .i64 0, .int .i64 0] t) (hB : B b) : SlN 1 W B (some ⟨b, 0, none⟩) (prN (valN k n s) (valN k' n' s')).kids := by
  refine ⟨by show 2 ≤ _; omega, fun _ => ⟨b, 0, rfl, hB, fun j x hx => ?_⟩⟩
  match j, hx with
  | 0, hx =>
    obtain rfl : valN k n s = x := by simpa [prN, Nd.kids] using hx
    refine ⟨none, 0, fun i hi => ?_, rfl⟩
    rw [h.cell]
    match i, hi with
    | 0, _ | 1, _ | 2, _ | 3, _ | 4, _ | 5, _ | 6, _ | 7, _ => rfl
  | 1, hx =>
    obtain rfl : valN k' n' s' = x := by simpa [prN, Nd.kids] using hx
    refine ⟨none, 0, fun i hi => ?_, rfl⟩
    rw [h.cell]
    match i, hi with
    | 0, _ | 1, _ | 2, _ | 3, _ | 4, _ | 5, _ | 6, _ | 7, _ => rfl
  | j + 2, hx => simp [prN, Nd.kids] at hx

set_option maxRecDepth 100000 in
set_option maxHeartbeats 1000000 in
/-- CONTRACT: pairNode. -/
theorem pairNode_any (k n : Int) (s : ByteArray) (k' n' : Int) (s' : ByteArray) (w : World) :
    Calls Tryd.prog 21 #[.agg #[.int .i64 k, .int .i64 n, .string s], .agg #[.int .i64 k', .int .i64 n', .string s']] w (NdEnd w 1 (prN (valN k n s) (valN k' n' s'))) := by
  have hS0 : SPr w k n s k' n' s' (((w.alloc (.cells #[.int .i64 k, .int .i64 n, .string s] 23)).alloc (.cells #[.int .i64 k', .int .i64 n', .string s'] 23)).alloc (.cells #[.int .i64 0, .int .i64 0, .int .i64 0, .string ⟨#[]⟩, .string ⟨#[]⟩, .slice none 0 0, .int .i64 0, .int .i64 0] 35)) := by
    have b2 : Below w.heap.size w ((w.alloc (.cells #[.int .i64 k, .int .i64 n, .string s] 23)).alloc (.cells #[.int .i64 k', .int .i64 n', .string s'] 23)) := ((Below.refl _ _).alloc (Nat.le_refl _) _).alloc (by simp) _
    have b3 : Below (w.heap.size + 2) ((w.alloc (.cells #[.int .i64 k, .int .i64 n, .string s] 23)).alloc (.cells #[.int .i64 k', .int .i64 n', .string s'] 23)) (((w.alloc (.cells #[.int .i64 k, .int .i64 n, .string s] 23)).alloc (.cells #[.int .i64 k', .int .i64 n', .string s'] 23)).alloc (.cells #[.int .i64 0, .int .i64 0, .int .i64 0, .string ⟨#[]⟩, .string ⟨#[]⟩, .slice none 0 0, .int .i64 0, .int .i64 0] 35)) := (Below.refl _ _).alloc (by simp) _
    refine ⟨(Blk.new2 w _ _ _ _).next b3 (by omega), (Blk.new2' w _ _ _ _).next b3 (by omega), ?_, b2.trans (b3.mono (by omega))⟩
    refine ⟨#[.int .i64 0, .int .i64 0, .int .i64 0, .string ⟨#[]⟩, .string ⟨#[]⟩, .slice none 0 0, .int .i64 0, .int .i64 0], rfl, ?_⟩
    have h := Blk.new ((w.alloc (.cells #[.int .i64 k, .int .i64 n, .string s] 23)).alloc (.cells #[.int .i64 k', .int .i64 n', .string s'] 23)) #[.int .i64 0, .int .i64 0, .int .i64 0, .string ⟨#[]⟩, .string ⟨#[]⟩, .slice none 0 0, .int .i64 0, .int .i64 0] 35
    simpa using h
  obtain ⟨w0, hw0⟩ : ∃ w0, (((w.alloc (.cells #[.int .i64 k, .int .i64 n, .string s] 23)).alloc (.cells #[.int .i64 k', .int .i64 n', .string s'] 23)).alloc (.cells #[.int .i64 0, .int .i64 0, .int .i64 0, .string ⟨#[]⟩, .string ⟨#[]⟩, .slice none 0 0, .int .i64 0, .int .i64 0] 35)) = w0 := ⟨_, rfl⟩
  rw [hw0] at hS0
  have HS0 := Lib.hid hS0
  clear hS0
  go_enter Tryd.func21, Tryd.ntmps21
  go_upto_region 1 with (fail)
  try rw [hw0]
  clear hw0
  refine wp_region_held_drew (S := SPr w k n s k' n' s') (by kernel_rfl) (HS0.out.next (Below.refl _ _).drew) (fun hHeld => ?_)
  refine takeV 0 (some 5) (.agg #[.int .i64 k, .int .i64 n, .string s]) rfl rfl (by kernel_rfl) (by kernel_rfl) (by kernel_rfl) (fun _ _ _ h => h) (by rfl) (by (intro _w hSw; (have q0 := hSw.x.cell 0; have q1 := hSw.x.cell 1; have q2 := hSw.x.cell 2); clear hSw; go_simp)) (by assumption) ?_
  simp only [Act.put, List.setIfInBounds_toArray, List.set_cons_zero, List.set_cons_succ]
  refine takeV 2 (some 7) (.agg #[.int .i64 k', .int .i64 n', .string s']) rfl rfl (by kernel_rfl) (by kernel_rfl) (by kernel_rfl) (fun _ _ _ h => h) (by rfl) (by (intro _w hSw; (have q0 := hSw.y.cell 0; have q1 := hSw.y.cell 1; have q2 := hSw.y.cell 2); clear hSw; go_simp)) (by assumption) ?_
  simp only [Act.put, List.setIfInBounds_toArray, List.set_cons_zero, List.set_cons_succ]
  refine callV 1 rfl (by kernel_rfl) (by rfl) (fun K hK => ?_)
  go_simp
  refine (valueNode_any k n s _).mono ?_
  rintro e w1 ⟨rfl, hb1⟩
  refine hK.out _ _ (hHeld.next hb1) (fun hHeld1 => ?_)
  clear hK K hb1 hHeld
  try simp only [Act.put, List.setIfInBounds_toArray, List.set_cons_zero, List.set_cons_succ]
  refine callV 3 rfl (by kernel_rfl) (by rfl) (fun K hK => ?_)
  go_simp
  refine (valueNode_any k' n' s' _).mono ?_
  rintro e w2 ⟨rfl, hb2⟩
  refine hK.out _ _ (hHeld1.next hb2) (fun hHeld2 => ?_)
  clear hK K hb2 hHeld1
  try simp only [Act.put, List.setIfInBounds_toArray, List.set_cons_zero, List.set_cons_succ]
  refine callV 4 rfl (by kernel_rfl) (by rfl) (fun K hK => ?_)
  go_simp
  have HQ : Hid (Blk (w2.alloc (.cells #[.int .i64 1, .int .i64 k, .int .i64 n, .string s, .string ⟨#[]⟩, .slice none 0 0, .int .i64 0, .int .i64 0, .int .i64 1, .int .i64 k', .int .i64 n', .string s', .string ⟨#[]⟩, .slice none 0 0, .int .i64 0, .int .i64 0] 35)) w2.heap.size #[.int .i64 1, .int .i64 k, .int .i64 n, .string s, .string ⟨#[]⟩, .slice none 0 0, .int .i64 0, .int .i64 0, .int .i64 1, .int .i64 k', .int .i64 n', .string s', .string ⟨#[]⟩, .slice none 0 0, .int .i64 0, .int .i64 0] 35) := Blk.new _ _ _
  have HB9 : Hid (Below w2.heap.size w2 (w2.alloc (.cells #[.int .i64 1, .int .i64 k, .int .i64 n, .string s, .string ⟨#[]⟩, .slice none 0 0, .int .i64 0, .int .i64 0, .int .i64 1, .int .i64 k', .int .i64 n', .string s', .string ⟨#[]⟩, .slice none 0 0, .int .i64 0, .int .i64 0] 35))) := (Below.refl _ _).alloc (Nat.le_refl _) _
  refine hK.out _ _ (hHeld2.next HB9.out) (fun hHeld3 => ?_)
  have hz2 := hHeld2.size
  clear hK K hHeld2
  obtain ⟨w3, hw3⟩ : ∃ w3, w2.alloc (.cells #[.int .i64 1, .int .i64 k, .int .i64 n, .string s, .string ⟨#[]⟩, .slice none 0 0, .int .i64 0, .int .i64 0, .int .i64 1, .int .i64 k', .int .i64 n', .string s', .string ⟨#[]⟩, .slice none 0 0, .int .i64 0, .int .i64 0] 35) = w3 := ⟨_, rfl⟩
  rw [hw3] at hHeld3 HQ HB9 ⊢
  clear hw3
  try simp only [Act.put, List.setIfInBounds_toArray, List.set_cons_zero, List.set_cons_succ]
  refine takeV 5 (some 10) (.agg #[.int .i64 4, .int .i64 0, .int .i64 0, .string ⟨#[]⟩, .string ⟨#[]⟩, .slice (some ⟨w2.heap.size, 0, none⟩) 2 2, .int .i64 0, .int .i64 0]) rfl rfl (by kernel_rfl) (by kernel_rfl) (by kernel_rfl) (fun _ _ _ h => h) (by rfl) (by (intro _w _hSw; (try dsimp only at _hSw); go_simp)) (by assumption) ?_
  simp only [Act.put, List.setIfInBounds_toArray, List.set_cons_zero, List.set_cons_succ]
  obtain ⟨cs, hcs, hz⟩ := hHeld3.z
  obtain ⟨c0, c1, c2, c3, c4, c5, c6, c7, rfl⟩ := arr8 hcs
  have z0 : w3.cell? ⟨w.heap.size + 1 + 1, 0, none⟩ = some c0 := hz.cell 0
  have f0 := hz.fz 0
  have z1 : w3.cell? ⟨w.heap.size + 1 + 1, 1, none⟩ = some c1 := hz.cell 1
  have f1 := hz.fz 1
  have z2 : w3.cell? ⟨w.heap.size + 1 + 1, 2, none⟩ = some c2 := hz.cell 2
  have f2 := hz.fz 2
  have z3 : w3.cell? ⟨w.heap.size + 1 + 1, 3, none⟩ = some c3 := hz.cell 3
  have f3 := hz.fz 3
  have z4 : w3.cell? ⟨w.heap.size + 1 + 1, 4, none⟩ = some c4 := hz.cell 4
  have f4 := hz.fz 4
  have z5 : w3.cell? ⟨w.heap.size + 1 + 1, 5, none⟩ = some c5 := hz.cell 5
  have f5 := hz.fz 5
  have z6 : w3.cell? ⟨w.heap.size + 1 + 1, 6, none⟩ = some c6 := hz.cell 6
  have f6 := hz.fz 6
  have z7 : w3.cell? ⟨w.heap.size + 1 + 1, 7, none⟩ = some c7 := hz.cell 7
  have f7 := hz.fz 7
  refine callV 6 rfl (by kernel_rfl) (by rfl) (fun K hK => ?_)
  go_simp
  have hz9 := hz.set8 (.int .i64 4) (.int .i64 0) (.int .i64 0) (.string ⟨#[]⟩) (.string ⟨#[]⟩) (.slice (some ⟨w2.heap.size, 0, none⟩) 2 2) (.int .i64 0) (.int .i64 0)
  have hb9 := below_set8 (W := w3) (B := w.heap.size + 1 + 1) (b := w.heap.size + 1 + 1) (Nat.le_refl _) (.int .i64 4) (.int .i64 0) (.int .i64 0) (.string ⟨#[]⟩) (.string ⟨#[]⟩) (.slice (some ⟨w2.heap.size, 0, none⟩) 2 2) (.int .i64 0) (.int .i64 0)
  have hq9 := HQ.out.off8 (b := w.heap.size + 1 + 1) (by omega) (.int .i64 4) (.int .i64 0) (.int .i64 0) (.string ⟨#[]⟩) (.string ⟨#[]⟩) (.slice (some ⟨w2.heap.size, 0, none⟩) 2 2) (.int .i64 0) (.int .i64 0)
  have hs9 := size_set8 (W := w3) (b := w.heap.size + 1 + 1) (.int .i64 4) (.int .i64 0) (.int .i64 0) (.string ⟨#[]⟩) (.string ⟨#[]⟩) (.slice (some ⟨w2.heap.size, 0, none⟩) 2 2) (.int .i64 0) (.int .i64 0)
  obtain ⟨w4, hw4⟩ : ∃ w4, ((((((((w3.setCell ⟨w.heap.size + 1 + 1, 0, none⟩ (.int .i64 4)).setCell ⟨w.heap.size + 1 + 1, 1, none⟩ (.int .i64 0)).setCell ⟨w.heap.size + 1 + 1, 2, none⟩ (.int .i64 0)).setCell ⟨w.heap.size + 1 + 1, 3, none⟩ (.string ⟨#[]⟩)).setCell ⟨w.heap.size + 1 + 1, 4, none⟩ (.string ⟨#[]⟩)).setCell ⟨w.heap.size + 1 + 1, 5, none⟩ (.slice (some ⟨w2.heap.size, 0, none⟩) 2 2)).setCell ⟨w.heap.size + 1 + 1, 6, none⟩ (.int .i64 0)).setCell ⟨w.heap.size + 1 + 1, 7, none⟩ (.int .i64 0)) = w4 := ⟨_, rfl⟩
  rw [hw4] at hz9 hb9 hq9 hs9 ⊢
  clear hw4
  have HZ9 := Lib.hid hz9
  have HQ9 := Lib.hid hq9
  have HB4 : Hid (Below w.heap.size w w4) := hHeld3.below.trans (hb9.mono (by omega))
  have HS9 : Hid (w4.heap.size = w3.heap.size) := hs9
  have HL : Hid (Fr w.heap.size w4 w2.heap.size) := ⟨by omega, hq9.lt, hq9.cell 0⟩
  have hS4 : SPr w k n s k' n' s' w4 := ⟨hHeld3.x.next hb9 (by omega), hHeld3.y.next hb9 (by omega), ⟨_, rfl, hz9⟩, HB4.out⟩
  clear hz9 hb9 hq9 hs9 z0 f0 z1 f1 z2 f2 z3 f3 z4 f4 z5 f5 z6 f6 z7 f7
  refine hK.out _ _ hS4 (fun hHeld4 => ?_)
  clear hK K hHeld3
  try simp only [Act.put, List.setIfInBounds_toArray, List.set_cons_zero, List.set_cons_succ]
  refine wpAnyH_done (by kernel_rfl) ?_ _
  go_wp2
  have r := HZ9.out
  refine bodyPost_ret (v := .agg #[.int .i64 4, .int .i64 0, .int .i64 0, .string ⟨#[]⟩, .string ⟨#[]⟩, .slice (some ⟨w2.heap.size, 0, none⟩) 2 2, .int .i64 0, .int .i64 0]) ?_ rfl ⟨some ⟨w2.heap.size, 0, none⟩, 2, rfl, prN_cells HQ9.out HL.out, HB4.out⟩
  exact results_cell_row rfl _ w4 (w.heap.size + 1 + 1) 35 _ (0, 0) _ rfl HZ9.out Tryd.underlying35 rfl sizeNd

end Go.Proofs.YtdjdlfndmeegnaaDoor
