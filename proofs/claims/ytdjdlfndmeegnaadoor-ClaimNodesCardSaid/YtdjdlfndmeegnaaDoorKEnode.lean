/-
  CONTRACTS: the node of an entity that is a number or a name (both sides).
-/
import Derived.Test.YtdjdlfndmeegnaaDoorKPair
import Derived.Laws.Rows
namespace Go.Proofs.YtdjdlfndmeegnaaDoor
open Go.RowKit
open Go.Deep

/-- a parameter in its box, and the node to be answered -/
structure SBx (w : World) (cs : Array Value) (t : TypeId) (W : World) : Prop where
  x : Blk W w.heap.size cs t
  z : ∃ zs, zs.size = 8 ∧ Blk W (w.heap.size + 1) zs 35
  below : Below w.heap.size w W
theorem SBx.size {w : World} {cs : Array Value} {t : TypeId} {W : World} (h : SBx w cs t W) : w.heap.size + 2 ≤ W.heap.size := by obtain ⟨zs, _, h⟩ := h.z; have := h.lt; omega
theorem SBx.next {w : World} {cs : Array Value} {t : TypeId} {W W' : World} (h : SBx w cs t W) (hb : Below W.heap.size W W') : SBx w cs t W' :=
  ⟨h.x.next hb h.x.lt, by obtain ⟨zs, h1, h2⟩ := h.z; exact ⟨zs, h1, h2.next hb h2.lt⟩, h.below.trans (hb.mono (by have := h.size; omega))⟩
theorem sbx_new (w : World) (cs : Array Value) (t : TypeId) : SBx w cs t ((w.alloc (.cells cs t)).alloc (.cells #[.int .i64 0, .int .i64 0, .int .i64 0, .string ⟨#[]⟩, .string ⟨#[]⟩, .slice none 0 0, .int .i64 0, .int .i64 0] 35)) :=
  ⟨Blk.new2 w _ _ _ _, ⟨#[.int .i64 0, .int .i64 0, .int .i64 0, .string ⟨#[]⟩, .string ⟨#[]⟩, .slice none 0 0, .int .i64 0, .int .i64 0], rfl, Blk.new2' w _ _ _ _⟩, ((Below.refl _ _).alloc (Nat.le_refl _) _).alloc (by simp) _⟩
theorem entN_1 (n : Int) (nm : ByteArray) (vk vn : Int) (vs : ByteArray) : entN ⟨1, n, nm, vk, vn, vs⟩ = valN 5 n eB := by unfold entN; rw [if_pos rfl]
theorem entN_2 (n : Int) (nm : ByteArray) (vk vn : Int) (vs : ByteArray) : entN ⟨2, n, nm, vk, vn, vs⟩ = namN nm := by unfold entN; rw [if_neg (show ¬ (2 : Int) = 1 by decide), if_pos rfl]
theorem entN_x {k : Int} (n : Int) (nm : ByteArray) (vk vn : Int) (vs : ByteArray) (h1 : ¬ k = 1) (h2 : ¬ k = 2) : entN ⟨k, n, nm, vk, vn, vs⟩ = prN (valN 7 0 nm) (valN vk vn vs) := by unfold entN; rw [if_neg h1, if_neg h2]

set_option maxRecDepth 100000 in
set_option maxHeartbeats 1000000 in
theorem entNode_1 (n : Int) (nm : ByteArray) (vk vn : Int) (vs : ByteArray) (w : World) :
    Calls Tryd.prog 17 #[.agg #[.int .i64 1, .int .i64 n, .string nm, .int .i64 vk, .int .i64 vn, .string vs]] w (NdEnd w 1 (entN ⟨1, n, nm, vk, vn, vs⟩)) := by
  rw [entN_1]
  obtain ⟨w0, hw0⟩ : ∃ w0, (w.alloc (.cells #[.int .i64 1, .int .i64 n, .string nm, .int .i64 vk, .int .i64 vn, .string vs] 25)).alloc (.cells #[.int .i64 0, .int .i64 0, .int .i64 0, .string ⟨#[]⟩, .string ⟨#[]⟩, .slice none 0 0, .int .i64 0, .int .i64 0] 35) = w0 := ⟨_, rfl⟩
  have HS0 : Hid (SBx w #[.int .i64 1, .int .i64 n, .string nm, .int .i64 vk, .int .i64 vn, .string vs] 25 w0) := by rw [← hw0]; exact sbx_new w _ _
  go_enter Tryd.func17, Tryd.ntmps17
  go_upto_region 1 with (fail)
  try rw [hw0]
  clear hw0
  have c0 : w0.cell? ⟨w.heap.size, 0, none⟩ = some (.int .i64 1) := HS0.out.x.cell 0
  have c1 : w0.cell? ⟨w.heap.size, 1, none⟩ = some (.int .i64 n) := HS0.out.x.cell 1
  have c2 : w0.cell? ⟨w.heap.size, 2, none⟩ = some (.string nm) := HS0.out.x.cell 2
  have c3 : w0.cell? ⟨w.heap.size, 3, none⟩ = some (.int .i64 vk) := HS0.out.x.cell 3
  have c4 : w0.cell? ⟨w.heap.size, 4, none⟩ = some (.int .i64 vn) := HS0.out.x.cell 4
  have c5 : w0.cell? ⟨w.heap.size, 5, none⟩ = some (.string vs) := HS0.out.x.cell 5
  go_wp2_with fail
  refine (refTo_any n _).mono ?_
  rintro e9 w1 ⟨rfl, hb⟩
  have HSw1 := Lib.hid (HS0.out.next hb)
  clear hb
  go_wp2_with fail
  refine (valueNode_any 5 n ⟨#[]⟩ _).mono ?_
  rintro e9 w2 ⟨rfl, hb⟩
  have HSw2 := Lib.hid (HSw1.out.next hb)
  clear hb
  obtain ⟨cs, hcs, hz⟩ := HSw2.out.z
  obtain ⟨z0, z1, z2, z3, z4, z5, z6, z7, rfl⟩ := arr8 hcs
  have zc0 : w2.cell? ⟨w.heap.size + 1, 0, none⟩ = some z0 := hz.cell 0
  have zf0 := hz.fz 0
  have zc1 : w2.cell? ⟨w.heap.size + 1, 1, none⟩ = some z1 := hz.cell 1
  have zf1 := hz.fz 1
  have zc2 : w2.cell? ⟨w.heap.size + 1, 2, none⟩ = some z2 := hz.cell 2
  have zf2 := hz.fz 2
  have zc3 : w2.cell? ⟨w.heap.size + 1, 3, none⟩ = some z3 := hz.cell 3
  have zf3 := hz.fz 3
  have zc4 : w2.cell? ⟨w.heap.size + 1, 4, none⟩ = some z4 := hz.cell 4
  have zf4 := hz.fz 4
  have zc5 : w2.cell? ⟨w.heap.size + 1, 5, none⟩ = some z5 := hz.cell 5
  have zf5 := hz.fz 5
  have zc6 : w2.cell? ⟨w.heap.size + 1, 6, none⟩ = some z6 := hz.cell 6
  have zf6 := hz.fz 6
  have zc7 : w2.cell? ⟨w.heap.size + 1, 7, none⟩ = some z7 := hz.cell 7
  have zf7 := hz.fz 7
  have hz9 := hz.set8 (.int .i64 1) (.int .i64 5) (.int .i64 n) (.string ⟨#[]⟩) (.string ⟨#[]⟩) (.slice none 0 0) (.int .i64 0) (.int .i64 0)
  have hb9 := below_set8 (W := w2) (B := w.heap.size + 1) (b := w.heap.size + 1) (Nat.le_refl _) (.int .i64 1) (.int .i64 5) (.int .i64 n) (.string ⟨#[]⟩) (.string ⟨#[]⟩) (.slice none 0 0) (.int .i64 0) (.int .i64 0)
  have hs9 := size_set8 (W := w2) (b := w.heap.size + 1) (.int .i64 1) (.int .i64 5) (.int .i64 n) (.string ⟨#[]⟩) (.string ⟨#[]⟩) (.slice none 0 0) (.int .i64 0) (.int .i64 0)
  have HBZ := HSw2.out.below.trans (hb9.mono (by omega))
  go_wp2
  refine bodyPost_ret (v := .agg #[.int .i64 1, .int .i64 5, .int .i64 n, .string ⟨#[]⟩, .string ⟨#[]⟩, .slice none 0 0, .int .i64 0, .int .i64 0]) ?_ rfl ⟨none, 0, rfl, SlN.nil _ _ _ _, HBZ⟩
  exact results_cell_row rfl _ _ (w.heap.size + 1) 35 _ (0, 0) _ rfl hz9 Tryd.underlying35 rfl sizeNd

set_option maxRecDepth 100000 in
set_option maxHeartbeats 1000000 in
theorem entNode_2 (n : Int) (nm : ByteArray) (vk vn : Int) (vs : ByteArray) (w : World) :
    Calls Tryd.prog 17 #[.agg #[.int .i64 2, .int .i64 n, .string nm, .int .i64 vk, .int .i64 vn, .string vs]] w (NdEnd w 1 (entN ⟨2, n, nm, vk, vn, vs⟩)) := by
  rw [entN_2]
  obtain ⟨w0, hw0⟩ : ∃ w0, (w.alloc (.cells #[.int .i64 2, .int .i64 n, .string nm, .int .i64 vk, .int .i64 vn, .string vs] 25)).alloc (.cells #[.int .i64 0, .int .i64 0, .int .i64 0, .string ⟨#[]⟩, .string ⟨#[]⟩, .slice none 0 0, .int .i64 0, .int .i64 0] 35) = w0 := ⟨_, rfl⟩
  have HS0 : Hid (SBx w #[.int .i64 2, .int .i64 n, .string nm, .int .i64 vk, .int .i64 vn, .string vs] 25 w0) := by rw [← hw0]; exact sbx_new w _ _
  go_enter Tryd.func17, Tryd.ntmps17
  go_upto_region 1 with (fail)
  try rw [hw0]
  clear hw0
  have c0 : w0.cell? ⟨w.heap.size, 0, none⟩ = some (.int .i64 2) := HS0.out.x.cell 0
  have c1 : w0.cell? ⟨w.heap.size, 1, none⟩ = some (.int .i64 n) := HS0.out.x.cell 1
  have c2 : w0.cell? ⟨w.heap.size, 2, none⟩ = some (.string nm) := HS0.out.x.cell 2
  have c3 : w0.cell? ⟨w.heap.size, 3, none⟩ = some (.int .i64 vk) := HS0.out.x.cell 3
  have c4 : w0.cell? ⟨w.heap.size, 4, none⟩ = some (.int .i64 vn) := HS0.out.x.cell 4
  have c5 : w0.cell? ⟨w.heap.size, 5, none⟩ = some (.string vs) := HS0.out.x.cell 5
  go_wp2_with fail
  refine (nameNode_any nm _).mono ?_
  rintro e9 w2 ⟨rfl, hb⟩
  have HSw2 := Lib.hid (HS0.out.next hb)
  clear hb
  obtain ⟨cs, hcs, hz⟩ := HSw2.out.z
  obtain ⟨z0, z1, z2, z3, z4, z5, z6, z7, rfl⟩ := arr8 hcs
  have zc0 : w2.cell? ⟨w.heap.size + 1, 0, none⟩ = some z0 := hz.cell 0
  have zf0 := hz.fz 0
  have zc1 : w2.cell? ⟨w.heap.size + 1, 1, none⟩ = some z1 := hz.cell 1
  have zf1 := hz.fz 1
  have zc2 : w2.cell? ⟨w.heap.size + 1, 2, none⟩ = some z2 := hz.cell 2
  have zf2 := hz.fz 2
  have zc3 : w2.cell? ⟨w.heap.size + 1, 3, none⟩ = some z3 := hz.cell 3
  have zf3 := hz.fz 3
  have zc4 : w2.cell? ⟨w.heap.size + 1, 4, none⟩ = some z4 := hz.cell 4
  have zf4 := hz.fz 4
  have zc5 : w2.cell? ⟨w.heap.size + 1, 5, none⟩ = some z5 := hz.cell 5
  have zf5 := hz.fz 5
  have zc6 : w2.cell? ⟨w.heap.size + 1, 6, none⟩ = some z6 := hz.cell 6
  have zf6 := hz.fz 6
  have zc7 : w2.cell? ⟨w.heap.size + 1, 7, none⟩ = some z7 := hz.cell 7
  have zf7 := hz.fz 7
  have hz9 := hz.set8 (.int .i64 2) (.int .i64 0) (.int .i64 0) (.string ⟨#[]⟩) (.string nm) (.slice none 0 0) (.int .i64 0) (.int .i64 0)
  have hb9 := below_set8 (W := w2) (B := w.heap.size + 1) (b := w.heap.size + 1) (Nat.le_refl _) (.int .i64 2) (.int .i64 0) (.int .i64 0) (.string ⟨#[]⟩) (.string nm) (.slice none 0 0) (.int .i64 0) (.int .i64 0)
  have hs9 := size_set8 (W := w2) (b := w.heap.size + 1) (.int .i64 2) (.int .i64 0) (.int .i64 0) (.string ⟨#[]⟩) (.string nm) (.slice none 0 0) (.int .i64 0) (.int .i64 0)
  have HBZ := HSw2.out.below.trans (hb9.mono (by omega))
  go_wp2
  refine bodyPost_ret (v := .agg #[.int .i64 2, .int .i64 0, .int .i64 0, .string ⟨#[]⟩, .string nm, .slice none 0 0, .int .i64 0, .int .i64 0]) ?_ rfl ⟨none, 0, rfl, SlN.nil _ _ _ _, HBZ⟩
  exact results_cell_row rfl _ _ (w.heap.size + 1) 35 _ (0, 0) _ rfl hz9 Tryd.underlying35 rfl sizeNd

set_option maxRecDepth 100000 in
set_option maxHeartbeats 1000000 in
theorem refWho_1 (n : Int) (nm : ByteArray) (vk vn : Int) (vs : ByteArray) (w : World) :
    Calls Tryd.prog 44 #[.agg #[.int .i64 1, .int .i64 n, .string nm, .int .i64 vk, .int .i64 vn, .string vs]] w (NdEnd w 1 (entN ⟨1, n, nm, vk, vn, vs⟩)) := by
  rw [entN_1]
  obtain ⟨w0, hw0⟩ : ∃ w0, (w.alloc (.cells #[.int .i64 1, .int .i64 n, .string nm, .int .i64 vk, .int .i64 vn, .string vs] 25)).alloc (.cells #[.int .i64 0, .int .i64 0, .int .i64 0, .string ⟨#[]⟩, .string ⟨#[]⟩, .slice none 0 0, .int .i64 0, .int .i64 0] 35) = w0 := ⟨_, rfl⟩
  have HS0 : Hid (SBx w #[.int .i64 1, .int .i64 n, .string nm, .int .i64 vk, .int .i64 vn, .string vs] 25 w0) := by rw [← hw0]; exact sbx_new w _ _
  go_enter Tryd.func44, Tryd.ntmps44
  go_upto_region 1 with (fail)
  try rw [hw0]
  clear hw0
  have c0 : w0.cell? ⟨w.heap.size, 0, none⟩ = some (.int .i64 1) := HS0.out.x.cell 0
  have c1 : w0.cell? ⟨w.heap.size, 1, none⟩ = some (.int .i64 n) := HS0.out.x.cell 1
  have c2 : w0.cell? ⟨w.heap.size, 2, none⟩ = some (.string nm) := HS0.out.x.cell 2
  have c3 : w0.cell? ⟨w.heap.size, 3, none⟩ = some (.int .i64 vk) := HS0.out.x.cell 3
  have c4 : w0.cell? ⟨w.heap.size, 4, none⟩ = some (.int .i64 vn) := HS0.out.x.cell 4
  have c5 : w0.cell? ⟨w.heap.size, 5, none⟩ = some (.string vs) := HS0.out.x.cell 5
  go_wp2_with fail
  refine (refValue_any 5 n ⟨#[]⟩ _).mono ?_
  rintro e9 w2 ⟨rfl, hb⟩
  have HSw2 := Lib.hid (HS0.out.next hb)
  clear hb
  obtain ⟨cs, hcs, hz⟩ := HSw2.out.z
  obtain ⟨z0, z1, z2, z3, z4, z5, z6, z7, rfl⟩ := arr8 hcs
  have zc0 : w2.cell? ⟨w.heap.size + 1, 0, none⟩ = some z0 := hz.cell 0
  have zf0 := hz.fz 0
  have zc1 : w2.cell? ⟨w.heap.size + 1, 1, none⟩ = some z1 := hz.cell 1
  have zf1 := hz.fz 1
  have zc2 : w2.cell? ⟨w.heap.size + 1, 2, none⟩ = some z2 := hz.cell 2
  have zf2 := hz.fz 2
  have zc3 : w2.cell? ⟨w.heap.size + 1, 3, none⟩ = some z3 := hz.cell 3
  have zf3 := hz.fz 3
  have zc4 : w2.cell? ⟨w.heap.size + 1, 4, none⟩ = some z4 := hz.cell 4
  have zf4 := hz.fz 4
  have zc5 : w2.cell? ⟨w.heap.size + 1, 5, none⟩ = some z5 := hz.cell 5
  have zf5 := hz.fz 5
  have zc6 : w2.cell? ⟨w.heap.size + 1, 6, none⟩ = some z6 := hz.cell 6
  have zf6 := hz.fz 6
  have zc7 : w2.cell? ⟨w.heap.size + 1, 7, none⟩ = some z7 := hz.cell 7
  have zf7 := hz.fz 7
  have hz9 := hz.set8 (.int .i64 1) (.int .i64 5) (.int .i64 n) (.string ⟨#[]⟩) (.string ⟨#[]⟩) (.slice none 0 0) (.int .i64 0) (.int .i64 0)
  have hb9 := below_set8 (W := w2) (B := w.heap.size + 1) (b := w.heap.size + 1) (Nat.le_refl _) (.int .i64 1) (.int .i64 5) (.int .i64 n) (.string ⟨#[]⟩) (.string ⟨#[]⟩) (.slice none 0 0) (.int .i64 0) (.int .i64 0)
  have hs9 := size_set8 (W := w2) (b := w.heap.size + 1) (.int .i64 1) (.int .i64 5) (.int .i64 n) (.string ⟨#[]⟩) (.string ⟨#[]⟩) (.slice none 0 0) (.int .i64 0) (.int .i64 0)
  have HBZ := HSw2.out.below.trans (hb9.mono (by omega))
  go_wp2
  refine bodyPost_ret (v := .agg #[.int .i64 1, .int .i64 5, .int .i64 n, .string ⟨#[]⟩, .string ⟨#[]⟩, .slice none 0 0, .int .i64 0, .int .i64 0]) ?_ rfl ⟨none, 0, rfl, SlN.nil _ _ _ _, HBZ⟩
  exact results_cell_row rfl _ _ (w.heap.size + 1) 35 _ (0, 0) _ rfl hz9 Tryd.underlying35 rfl sizeNd

set_option maxRecDepth 100000 in
set_option maxHeartbeats 1000000 in
theorem refWho_2 (n : Int) (nm : ByteArray) (vk vn : Int) (vs : ByteArray) (w : World) :
    Calls Tryd.prog 44 #[.agg #[.int .i64 2, .int .i64 n, .string nm, .int .i64 vk, .int .i64 vn, .string vs]] w (NdEnd w 1 (entN ⟨2, n, nm, vk, vn, vs⟩)) := by
  rw [entN_2]
  obtain ⟨w0, hw0⟩ : ∃ w0, (w.alloc (.cells #[.int .i64 2, .int .i64 n, .string nm, .int .i64 vk, .int .i64 vn, .string vs] 25)).alloc (.cells #[.int .i64 0, .int .i64 0, .int .i64 0, .string ⟨#[]⟩, .string ⟨#[]⟩, .slice none 0 0, .int .i64 0, .int .i64 0] 35) = w0 := ⟨_, rfl⟩
  have HS0 : Hid (SBx w #[.int .i64 2, .int .i64 n, .string nm, .int .i64 vk, .int .i64 vn, .string vs] 25 w0) := by rw [← hw0]; exact sbx_new w _ _
  go_enter Tryd.func44, Tryd.ntmps44
  go_upto_region 1 with (fail)
  try rw [hw0]
  clear hw0
  have c0 : w0.cell? ⟨w.heap.size, 0, none⟩ = some (.int .i64 2) := HS0.out.x.cell 0
  have c1 : w0.cell? ⟨w.heap.size, 1, none⟩ = some (.int .i64 n) := HS0.out.x.cell 1
  have c2 : w0.cell? ⟨w.heap.size, 2, none⟩ = some (.string nm) := HS0.out.x.cell 2
  have c3 : w0.cell? ⟨w.heap.size, 3, none⟩ = some (.int .i64 vk) := HS0.out.x.cell 3
  have c4 : w0.cell? ⟨w.heap.size, 4, none⟩ = some (.int .i64 vn) := HS0.out.x.cell 4
  have c5 : w0.cell? ⟨w.heap.size, 5, none⟩ = some (.string vs) := HS0.out.x.cell 5
  go_wp2_with fail
  refine (refName_any nm _).mono ?_
  rintro e9 w2 ⟨rfl, hb⟩
  have HSw2 := Lib.hid (HS0.out.next hb)
  clear hb
  obtain ⟨cs, hcs, hz⟩ := HSw2.out.z
  obtain ⟨z0, z1, z2, z3, z4, z5, z6, z7, rfl⟩ := arr8 hcs
  have zc0 : w2.cell? ⟨w.heap.size + 1, 0, none⟩ = some z0 := hz.cell 0
  have zf0 := hz.fz 0
  have zc1 : w2.cell? ⟨w.heap.size + 1, 1, none⟩ = some z1 := hz.cell 1
  have zf1 := hz.fz 1
  have zc2 : w2.cell? ⟨w.heap.size + 1, 2, none⟩ = some z2 := hz.cell 2
  have zf2 := hz.fz 2
  have zc3 : w2.cell? ⟨w.heap.size + 1, 3, none⟩ = some z3 := hz.cell 3
  have zf3 := hz.fz 3
  have zc4 : w2.cell? ⟨w.heap.size + 1, 4, none⟩ = some z4 := hz.cell 4
  have zf4 := hz.fz 4
  have zc5 : w2.cell? ⟨w.heap.size + 1, 5, none⟩ = some z5 := hz.cell 5
  have zf5 := hz.fz 5
  have zc6 : w2.cell? ⟨w.heap.size + 1, 6, none⟩ = some z6 := hz.cell 6
  have zf6 := hz.fz 6
  have zc7 : w2.cell? ⟨w.heap.size + 1, 7, none⟩ = some z7 := hz.cell 7
  have zf7 := hz.fz 7
  have hz9 := hz.set8 (.int .i64 2) (.int .i64 0) (.int .i64 0) (.string ⟨#[]⟩) (.string nm) (.slice none 0 0) (.int .i64 0) (.int .i64 0)
  have hb9 := below_set8 (W := w2) (B := w.heap.size + 1) (b := w.heap.size + 1) (Nat.le_refl _) (.int .i64 2) (.int .i64 0) (.int .i64 0) (.string ⟨#[]⟩) (.string nm) (.slice none 0 0) (.int .i64 0) (.int .i64 0)
  have hs9 := size_set8 (W := w2) (b := w.heap.size + 1) (.int .i64 2) (.int .i64 0) (.int .i64 0) (.string ⟨#[]⟩) (.string nm) (.slice none 0 0) (.int .i64 0) (.int .i64 0)
  have HBZ := HSw2.out.below.trans (hb9.mono (by omega))
  go_wp2
  refine bodyPost_ret (v := .agg #[.int .i64 2, .int .i64 0, .int .i64 0, .string ⟨#[]⟩, .string nm, .slice none 0 0, .int .i64 0, .int .i64 0]) ?_ rfl ⟨none, 0, rfl, SlN.nil _ _ _ _, HBZ⟩
  exact results_cell_row rfl _ _ (w.heap.size + 1) 35 _ (0, 0) _ rfl hz9 Tryd.underlying35 rfl sizeNd

end Go.Proofs.YtdjdlfndmeegnaaDoor
