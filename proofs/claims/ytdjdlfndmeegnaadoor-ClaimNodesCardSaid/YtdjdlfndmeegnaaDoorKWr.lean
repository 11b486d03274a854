/-
  CONTRACTS: Write, both sides.
-/
import Derived.Test.YtdjdlfndmeegnaaDoorKWrite
import Derived.Test.YtdjdlfndmeegnaaDoorKRnod1
import Derived.Test.YtdjdlfndmeegnaaDoorKRnod2
import Derived.Test.YtdjdlfndmeegnaaDoorKRnod3
import Derived.Test.YtdjdlfndmeegnaaDoorKRnod4
import Derived.Laws.ResultCell
namespace Go.Proofs.YtdjdlfndmeegnaaDoor
open Go.RowKit
open Go.Deep
theorem formB_op {f : Fm} (h : formB f = true) : 1 ≤ f.op ∧ f.op ≤ 4 := by
  unfold formB at h
  split at h
  · cases h
  · split at h
    · cases h
    · split at h
      · rename_i h1; omega
      · split at h
        · omega
        · split at h
          · omega
          · cases h
/-- CONTRACT: the document's node. -/
theorem refNode_any (f : Fm) (sp : Bool) (w : World) (h1 : 1 ≤ f.op) (h2 : f.op ≤ 4) : Calls Tryd.prog 23 #[.agg #[.int .i64 f.op, .int .i64 f.e.k, .int .i64 f.e.n, .string f.e.nm, .int .i64 f.e.vk, .int .i64 f.e.vn, .string f.e.vs, .string f.a, .bool f.v.ent, .int .i64 f.v.vk, .int .i64 f.v.vn, .string f.v.vs, .int .i64 f.v.e.k, .int .i64 f.v.e.n, .string f.v.e.nm, .int .i64 f.v.e.vk, .int .i64 f.v.e.vn, .string f.v.e.vs, .bool f.old.ent, .int .i64 f.old.vk, .int .i64 f.old.vn, .string f.old.vs, .int .i64 f.old.e.k, .int .i64 f.old.e.n, .string f.old.e.nm, .int .i64 f.old.e.vk, .int .i64 f.old.e.vn, .string f.old.e.vs, .int .i64 f.fr, .int .i64 f.til], .bool sp] w (RnEnd f sp w) := by
  obtain ⟨op, e, a, v, old, fr, til⟩ := f
  have h : op = 1 ∨ op = 2 ∨ op = 3 ∨ op = 4 := by simp only at h1 h2; omega
  rcases h with rfl | rfl | rfl | rfl
  · exact refNode_1 e a v old fr til sp w
  · exact refNode_2 e a v old fr til sp w
  · exact refNode_3 e a v old fr til sp w
  · exact refNode_4 e a v old fr til sp w
def NoEnd (W : World) (e : Ending) (w' : World) : Prop := e = .returned (.tuple #[.agg #[.int .i64 0, .int .i64 0, .int .i64 0, .string ⟨#[]⟩, .string ⟨#[]⟩, .slice none 0 0, .int .i64 0, .int .i64 0], .int .i64 90]) ∧ Below W.heap.size W w'

set_option maxRecDepth 100000 in
set_option maxHeartbeats 1000000 in
theorem write_no (f : Fm) (w : World) (hf : FmS f) (hb : formB f = false) : Calls Tryd.prog 7 #[.agg #[.int .i64 f.op, .int .i64 f.e.k, .int .i64 f.e.n, .string f.e.nm, .int .i64 f.e.vk, .int .i64 f.e.vn, .string f.e.vs, .string f.a, .bool f.v.ent, .int .i64 f.v.vk, .int .i64 f.v.vn, .string f.v.vs, .int .i64 f.v.e.k, .int .i64 f.v.e.n, .string f.v.e.nm, .int .i64 f.v.e.vk, .int .i64 f.v.e.vn, .string f.v.e.vs, .bool f.old.ent, .int .i64 f.old.vk, .int .i64 f.old.vn, .string f.old.vs, .int .i64 f.old.e.k, .int .i64 f.old.e.n, .string f.old.e.nm, .int .i64 f.old.e.vk, .int .i64 f.old.e.vn, .string f.old.e.vs, .int .i64 f.fr, .int .i64 f.til]] w (NoEnd w) := by
  have HMay := Lib.hid (fun W => frmMay_any f W hf)
  rw [hb] at HMay
  clear hb
  obtain ⟨w0, hw0⟩ : ∃ w0, (w.alloc (.cells #[.int .i64 f.op, .int .i64 f.e.k, .int .i64 f.e.n, .string f.e.nm, .int .i64 f.e.vk, .int .i64 f.e.vn, .string f.e.vs, .string f.a, .bool f.v.ent, .int .i64 f.v.vk, .int .i64 f.v.vn, .string f.v.vs, .int .i64 f.v.e.k, .int .i64 f.v.e.n, .string f.v.e.nm, .int .i64 f.v.e.vk, .int .i64 f.v.e.vn, .string f.v.e.vs, .bool f.old.ent, .int .i64 f.old.vk, .int .i64 f.old.vn, .string f.old.vs, .int .i64 f.old.e.k, .int .i64 f.old.e.n, .string f.old.e.nm, .int .i64 f.old.e.vk, .int .i64 f.old.e.vn, .string f.old.e.vs, .int .i64 f.fr, .int .i64 f.til] 29)).alloc (.cells #[.int .i64 0, .int .i64 0, .int .i64 0, .string ⟨#[]⟩, .string ⟨#[]⟩, .slice none 0 0, .int .i64 0, .int .i64 0] 35) = w0 := ⟨_, rfl⟩
  have HS0 : Hid (SBx w #[.int .i64 f.op, .int .i64 f.e.k, .int .i64 f.e.n, .string f.e.nm, .int .i64 f.e.vk, .int .i64 f.e.vn, .string f.e.vs, .string f.a, .bool f.v.ent, .int .i64 f.v.vk, .int .i64 f.v.vn, .string f.v.vs, .int .i64 f.v.e.k, .int .i64 f.v.e.n, .string f.v.e.nm, .int .i64 f.v.e.vk, .int .i64 f.v.e.vn, .string f.v.e.vs, .bool f.old.ent, .int .i64 f.old.vk, .int .i64 f.old.vn, .string f.old.vs, .int .i64 f.old.e.k, .int .i64 f.old.e.n, .string f.old.e.nm, .int .i64 f.old.e.vk, .int .i64 f.old.e.vn, .string f.old.e.vs, .int .i64 f.fr, .int .i64 f.til] 29 w0) := by rw [← hw0]; exact sbx_new w _ _
  go_enter Tryd.func7, Tryd.ntmps7
  go_upto_region 1 with (fail)
  try rw [hw0]
  clear hw0
  refine wp_region_lit ?_
  refine wpList_load_row rfl 29 _ rfl w.heap.size rfl 29 _ (0, 0) _ HS0.out.x Tryd.underlying29 rfl sizeF ?_
  go_wp2_with fail
  refine (HMay.out _).mono ?_
  rintro e9 w1 ⟨rfl, hb⟩
  have HS1 := Lib.hid (HS0.out.next hb)
  clear hb
  obtain ⟨cs, hcs, hz⟩ := HS1.out.z
  obtain ⟨z0, z1, z2, z3, z4, z5, z6, z7, rfl⟩ := arr8 hcs
  have zc0 : w1.cell? ⟨w.heap.size + 1, 0, none⟩ = some z0 := hz.cell 0
  have zf0 := hz.fz 0
  have zc1 : w1.cell? ⟨w.heap.size + 1, 1, none⟩ = some z1 := hz.cell 1
  have zf1 := hz.fz 1
  have zc2 : w1.cell? ⟨w.heap.size + 1, 2, none⟩ = some z2 := hz.cell 2
  have zf2 := hz.fz 2
  have zc3 : w1.cell? ⟨w.heap.size + 1, 3, none⟩ = some z3 := hz.cell 3
  have zf3 := hz.fz 3
  have zc4 : w1.cell? ⟨w.heap.size + 1, 4, none⟩ = some z4 := hz.cell 4
  have zf4 := hz.fz 4
  have zc5 : w1.cell? ⟨w.heap.size + 1, 5, none⟩ = some z5 := hz.cell 5
  have zf5 := hz.fz 5
  have zc6 : w1.cell? ⟨w.heap.size + 1, 6, none⟩ = some z6 := hz.cell 6
  have zf6 := hz.fz 6
  have zc7 : w1.cell? ⟨w.heap.size + 1, 7, none⟩ = some z7 := hz.cell 7
  have zf7 := hz.fz 7
  have hz9 := hz.set8 (.int .i64 0) (.int .i64 0) (.int .i64 0) (.string ⟨#[]⟩) (.string ⟨#[]⟩) (.slice none 0 0) (.int .i64 0) (.int .i64 0)
  have hb9 := below_set8 (W := w1) (B := w.heap.size + 1) (b := w.heap.size + 1) (Nat.le_refl _) (.int .i64 0) (.int .i64 0) (.int .i64 0) (.string ⟨#[]⟩) (.string ⟨#[]⟩) (.slice none 0 0) (.int .i64 0) (.int .i64 0)
  have HBZ := Lib.hid (HS1.out.below.trans (hb9.mono (by omega)))
  have HZ9 := Lib.hid hz9
  clear hz9 hb9
  go_wp2
  have r0 := HZ9.out.cell 0
  have r1 := HZ9.out.cell 1
  have r2 := HZ9.out.cell 2
  have r3 := HZ9.out.cell 3
  have r4 := HZ9.out.cell 4
  have r5 := HZ9.out.cell 5
  have r6 := HZ9.out.cell 6
  have r7 := HZ9.out.cell 7
  clear zc0 zf0 zc1 zf1 zc2 zf2 zc3 zf3 zc4 zf4 zc5 zf5 zc6 zf6 zc7 zf7
  refine bodyPost_ret (v := .tuple #[.agg #[.int .i64 0, .int .i64 0, .int .i64 0, .string ⟨#[]⟩, .string ⟨#[]⟩, .slice none 0 0, .int .i64 0, .int .i64 0], .int .i64 90]) ?_ rfl ⟨rfl, HBZ.out⟩
  rw [results_cell_tmp rfl]
  go_simp

set_option maxRecDepth 100000 in
set_option maxHeartbeats 1000000 in
theorem refWrite_no (f : Fm) (w : World) (hf : FmS f) (hb : formB f = false) : Calls Tryd.prog 8 #[.agg #[.int .i64 f.op, .int .i64 f.e.k, .int .i64 f.e.n, .string f.e.nm, .int .i64 f.e.vk, .int .i64 f.e.vn, .string f.e.vs, .string f.a, .bool f.v.ent, .int .i64 f.v.vk, .int .i64 f.v.vn, .string f.v.vs, .int .i64 f.v.e.k, .int .i64 f.v.e.n, .string f.v.e.nm, .int .i64 f.v.e.vk, .int .i64 f.v.e.vn, .string f.v.e.vs, .bool f.old.ent, .int .i64 f.old.vk, .int .i64 f.old.vn, .string f.old.vs, .int .i64 f.old.e.k, .int .i64 f.old.e.n, .string f.old.e.nm, .int .i64 f.old.e.vk, .int .i64 f.old.e.vn, .string f.old.e.vs, .int .i64 f.fr, .int .i64 f.til]] w (NoEnd w) := by
  have HMay := Lib.hid (fun W => refFrm_any f W hf)
  rw [hb] at HMay
  clear hb
  obtain ⟨w0, hw0⟩ : ∃ w0, (w.alloc (.cells #[.int .i64 f.op, .int .i64 f.e.k, .int .i64 f.e.n, .string f.e.nm, .int .i64 f.e.vk, .int .i64 f.e.vn, .string f.e.vs, .string f.a, .bool f.v.ent, .int .i64 f.v.vk, .int .i64 f.v.vn, .string f.v.vs, .int .i64 f.v.e.k, .int .i64 f.v.e.n, .string f.v.e.nm, .int .i64 f.v.e.vk, .int .i64 f.v.e.vn, .string f.v.e.vs, .bool f.old.ent, .int .i64 f.old.vk, .int .i64 f.old.vn, .string f.old.vs, .int .i64 f.old.e.k, .int .i64 f.old.e.n, .string f.old.e.nm, .int .i64 f.old.e.vk, .int .i64 f.old.e.vn, .string f.old.e.vs, .int .i64 f.fr, .int .i64 f.til] 29)).alloc (.cells #[.int .i64 0, .int .i64 0, .int .i64 0, .string ⟨#[]⟩, .string ⟨#[]⟩, .slice none 0 0, .int .i64 0, .int .i64 0] 35) = w0 := ⟨_, rfl⟩
  have HS0 : Hid (SBx w #[.int .i64 f.op, .int .i64 f.e.k, .int .i64 f.e.n, .string f.e.nm, .int .i64 f.e.vk, .int .i64 f.e.vn, .string f.e.vs, .string f.a, .bool f.v.ent, .int .i64 f.v.vk, .int .i64 f.v.vn, .string f.v.vs, .int .i64 f.v.e.k, .int .i64 f.v.e.n, .string f.v.e.nm, .int .i64 f.v.e.vk, .int .i64 f.v.e.vn, .string f.v.e.vs, .bool f.old.ent, .int .i64 f.old.vk, .int .i64 f.old.vn, .string f.old.vs, .int .i64 f.old.e.k, .int .i64 f.old.e.n, .string f.old.e.nm, .int .i64 f.old.e.vk, .int .i64 f.old.e.vn, .string f.old.e.vs, .int .i64 f.fr, .int .i64 f.til] 29 w0) := by rw [← hw0]; exact sbx_new w _ _
  go_enter Tryd.func8, Tryd.ntmps8
  go_upto_region 1 with (fail)
  try rw [hw0]
  clear hw0
  refine wp_region_lit ?_
  refine wpList_load_row rfl 29 _ rfl w.heap.size rfl 29 _ (0, 0) _ HS0.out.x Tryd.underlying29 rfl sizeF ?_
  go_wp2_with fail
  refine (HMay.out _).mono ?_
  rintro e9 w1 ⟨rfl, hb⟩
  have HS1 := Lib.hid (HS0.out.next hb)
  clear hb
  obtain ⟨cs, hcs, hz⟩ := HS1.out.z
  obtain ⟨z0, z1, z2, z3, z4, z5, z6, z7, rfl⟩ := arr8 hcs
  have zc0 : w1.cell? ⟨w.heap.size + 1, 0, none⟩ = some z0 := hz.cell 0
  have zf0 := hz.fz 0
  have zc1 : w1.cell? ⟨w.heap.size + 1, 1, none⟩ = some z1 := hz.cell 1
  have zf1 := hz.fz 1
  have zc2 : w1.cell? ⟨w.heap.size + 1, 2, none⟩ = some z2 := hz.cell 2
  have zf2 := hz.fz 2
  have zc3 : w1.cell? ⟨w.heap.size + 1, 3, none⟩ = some z3 := hz.cell 3
  have zf3 := hz.fz 3
  have zc4 : w1.cell? ⟨w.heap.size + 1, 4, none⟩ = some z4 := hz.cell 4
  have zf4 := hz.fz 4
  have zc5 : w1.cell? ⟨w.heap.size + 1, 5, none⟩ = some z5 := hz.cell 5
  have zf5 := hz.fz 5
  have zc6 : w1.cell? ⟨w.heap.size + 1, 6, none⟩ = some z6 := hz.cell 6
  have zf6 := hz.fz 6
  have zc7 : w1.cell? ⟨w.heap.size + 1, 7, none⟩ = some z7 := hz.cell 7
  have zf7 := hz.fz 7
  have hz9 := hz.set8 (.int .i64 0) (.int .i64 0) (.int .i64 0) (.string ⟨#[]⟩) (.string ⟨#[]⟩) (.slice none 0 0) (.int .i64 0) (.int .i64 0)
  have hb9 := below_set8 (W := w1) (B := w.heap.size + 1) (b := w.heap.size + 1) (Nat.le_refl _) (.int .i64 0) (.int .i64 0) (.int .i64 0) (.string ⟨#[]⟩) (.string ⟨#[]⟩) (.slice none 0 0) (.int .i64 0) (.int .i64 0)
  have HBZ := Lib.hid (HS1.out.below.trans (hb9.mono (by omega)))
  have HZ9 := Lib.hid hz9
  clear hz9 hb9
  go_wp2
  have r0 := HZ9.out.cell 0
  have r1 := HZ9.out.cell 1
  have r2 := HZ9.out.cell 2
  have r3 := HZ9.out.cell 3
  have r4 := HZ9.out.cell 4
  have r5 := HZ9.out.cell 5
  have r6 := HZ9.out.cell 6
  have r7 := HZ9.out.cell 7
  clear zc0 zf0 zc1 zf1 zc2 zf2 zc3 zf3 zc4 zf4 zc5 zf5 zc6 zf6 zc7 zf7
  refine bodyPost_ret (v := .tuple #[.agg #[.int .i64 0, .int .i64 0, .int .i64 0, .string ⟨#[]⟩, .string ⟨#[]⟩, .slice none 0 0, .int .i64 0, .int .i64 0], .int .i64 90]) ?_ rfl ⟨rfl, HBZ.out⟩
  rw [results_cell_tmp rfl]
  go_simp

set_option maxRecDepth 100000 in
set_option maxHeartbeats 1000000 in
theorem refWrite_a (f : Fm) (w : World) (hf : FmS f) (hb : formB f = true) (h1 : ¬ f.fr = minT) : Calls Tryd.prog 8 #[.agg #[.int .i64 f.op, .int .i64 f.e.k, .int .i64 f.e.n, .string f.e.nm, .int .i64 f.e.vk, .int .i64 f.e.vn, .string f.e.vs, .string f.a, .bool f.v.ent, .int .i64 f.v.vk, .int .i64 f.v.vn, .string f.v.vs, .int .i64 f.v.e.k, .int .i64 f.v.e.n, .string f.v.e.nm, .int .i64 f.v.e.vk, .int .i64 f.v.e.vn, .string f.v.e.vs, .bool f.old.ent, .int .i64 f.old.vk, .int .i64 f.old.vn, .string f.old.vs, .int .i64 f.old.e.k, .int .i64 f.old.e.n, .string f.old.e.nm, .int .i64 f.old.e.vk, .int .i64 f.old.e.vn, .string f.old.e.vs, .int .i64 f.fr, .int .i64 f.til]] w (WrEnd f w) := by
  have HMay := Lib.hid (fun W => refFrm_any f W hf)
  have HNd := Lib.hid (fun W => refNode_any f true W (formB_op hb).1 (formB_op hb).2)
  have HK : Hid (kidS f true = kidL f) := by
    have := kidS_L f
    rw [decide_eq_false h1] at this
    show _ = _
    rw [← this]
    rfl
  rw [hb] at HMay
  have d1 : (f.fr == (-9223372036854775808 : Int)) = false := by have := h1; unfold minT at this; simpa using this
  have d2 : (f.fr != (-9223372036854775808 : Int)) = true := by simp [bne, d1]
  clear h1 hb d1
  obtain ⟨w0, hw0⟩ : ∃ w0, (w.alloc (.cells #[.int .i64 f.op, .int .i64 f.e.k, .int .i64 f.e.n, .string f.e.nm, .int .i64 f.e.vk, .int .i64 f.e.vn, .string f.e.vs, .string f.a, .bool f.v.ent, .int .i64 f.v.vk, .int .i64 f.v.vn, .string f.v.vs, .int .i64 f.v.e.k, .int .i64 f.v.e.n, .string f.v.e.nm, .int .i64 f.v.e.vk, .int .i64 f.v.e.vn, .string f.v.e.vs, .bool f.old.ent, .int .i64 f.old.vk, .int .i64 f.old.vn, .string f.old.vs, .int .i64 f.old.e.k, .int .i64 f.old.e.n, .string f.old.e.nm, .int .i64 f.old.e.vk, .int .i64 f.old.e.vn, .string f.old.e.vs, .int .i64 f.fr, .int .i64 f.til] 29)).alloc (.cells #[.int .i64 0, .int .i64 0, .int .i64 0, .string ⟨#[]⟩, .string ⟨#[]⟩, .slice none 0 0, .int .i64 0, .int .i64 0] 35) = w0 := ⟨_, rfl⟩
  have HS0 : Hid (SBx w #[.int .i64 f.op, .int .i64 f.e.k, .int .i64 f.e.n, .string f.e.nm, .int .i64 f.e.vk, .int .i64 f.e.vn, .string f.e.vs, .string f.a, .bool f.v.ent, .int .i64 f.v.vk, .int .i64 f.v.vn, .string f.v.vs, .int .i64 f.v.e.k, .int .i64 f.v.e.n, .string f.v.e.nm, .int .i64 f.v.e.vk, .int .i64 f.v.e.vn, .string f.v.e.vs, .bool f.old.ent, .int .i64 f.old.vk, .int .i64 f.old.vn, .string f.old.vs, .int .i64 f.old.e.k, .int .i64 f.old.e.n, .string f.old.e.nm, .int .i64 f.old.e.vk, .int .i64 f.old.e.vn, .string f.old.e.vs, .int .i64 f.fr, .int .i64 f.til] 29 w0) := by rw [← hw0]; exact sbx_new w _ _
  go_enter Tryd.func8, Tryd.ntmps8
  go_upto_region 1 with (fail)
  try rw [hw0]
  clear hw0
  refine wp_region_lit ?_
  refine wpList_load_row rfl 29 _ rfl w.heap.size rfl 29 _ (0, 0) _ HS0.out.x Tryd.underlying29 rfl sizeF ?_
  go_wp2_with fail
  refine (HMay.out _).mono ?_
  rintro e9 w1 ⟨rfl, hb⟩
  have HS1 := Lib.hid (HS0.out.next hb)
  clear hb
  go_upto_region 4 with (fail)
  have c28 : w1.cell? ⟨w.heap.size, 28, none⟩ = some (.int .i64 f.fr) := HS1.out.x.cell 28
  have c29 : w1.cell? ⟨w.heap.size, 29, none⟩ = some (.int .i64 f.til) := HS1.out.x.cell 29
  refine wp_region_lit ?_
  refine wpList_load_row rfl 29 _ rfl w.heap.size rfl 29 _ (0, 0) _ HS1.out.x Tryd.underlying29 rfl sizeF ?_
  go_wp2_with fail
  refine (HNd.out _).mono ?_
  rintro e9 w2 ⟨KK, cc, rfl, hsl, hb⟩
  have HS2 := Lib.hid (HS1.out.next hb)
  have HSL := Lib.hid hsl
  have hz1 := HS1.out.size
  have hz2 := hb.size
  clear hsl hb
  have hk9 : ∀ b', w.heap.size + 2 ≤ b' → ((((((((w2.setCell ⟨w.heap.size + 1, 0, none⟩ (.int .i64 3)).setCell ⟨w.heap.size + 1, 1, none⟩ (.int .i64 0)).setCell ⟨w.heap.size + 1, 2, none⟩ (.int .i64 0)).setCell ⟨w.heap.size + 1, 3, none⟩ (.string ⟨#[]⟩)).setCell ⟨w.heap.size + 1, 4, none⟩ (.string ⟨#[]⟩)).setCell ⟨w.heap.size + 1, 5, none⟩ (.slice KK (kidS f true).length cc)).setCell ⟨w.heap.size + 1, 6, none⟩ (.int .i64 0)).setCell ⟨w.heap.size + 1, 7, none⟩ (.int .i64 0)).heap[b']? = w2.heap[b']? := fun b' hb' => heap_off8 (by omega) (.int .i64 3) (.int .i64 0) (.int .i64 0) (.string ⟨#[]⟩) (.string ⟨#[]⟩) (.slice KK (kidS f true).length cc) (.int .i64 0) (.int .i64 0)
  have hs9 := size_set8 (W := w2) (b := w.heap.size + 1) (.int .i64 3) (.int .i64 0) (.int .i64 0) (.string ⟨#[]⟩) (.string ⟨#[]⟩) (.slice KK (kidS f true).length cc) (.int .i64 0) (.int .i64 0)
  have HSE : Hid (SlN 2 ((((((((w2.setCell ⟨w.heap.size + 1, 0, none⟩ (.int .i64 3)).setCell ⟨w.heap.size + 1, 1, none⟩ (.int .i64 0)).setCell ⟨w.heap.size + 1, 2, none⟩ (.int .i64 0)).setCell ⟨w.heap.size + 1, 3, none⟩ (.string ⟨#[]⟩)).setCell ⟨w.heap.size + 1, 4, none⟩ (.string ⟨#[]⟩)).setCell ⟨w.heap.size + 1, 5, none⟩ (.slice KK (kidS f true).length cc)).setCell ⟨w.heap.size + 1, 6, none⟩ (.int .i64 0)).setCell ⟨w.heap.size + 1, 7, none⟩ (.int .i64 0)) (fun b => b < ((((((((w2.setCell ⟨w.heap.size + 1, 0, none⟩ (.int .i64 3)).setCell ⟨w.heap.size + 1, 1, none⟩ (.int .i64 0)).setCell ⟨w.heap.size + 1, 2, none⟩ (.int .i64 0)).setCell ⟨w.heap.size + 1, 3, none⟩ (.string ⟨#[]⟩)).setCell ⟨w.heap.size + 1, 4, none⟩ (.string ⟨#[]⟩)).setCell ⟨w.heap.size + 1, 5, none⟩ (.slice KK (kidS f true).length cc)).setCell ⟨w.heap.size + 1, 6, none⟩ (.int .i64 0)).setCell ⟨w.heap.size + 1, 7, none⟩ (.int .i64 0)).heap.size) KK (kidS f true)) := (HSL.out.keep (fun b hb => hk9 b (by have := hb.1; omega))).mono (fun b hb => by rw [hs9]; exact hb.2)
  clear hk9 hs9
  obtain ⟨cs, hcs, hz⟩ := HS2.out.z
  obtain ⟨z0, z1, z2, z3, z4, z5, z6, z7, rfl⟩ := arr8 hcs
  have zc0 : w2.cell? ⟨w.heap.size + 1, 0, none⟩ = some z0 := hz.cell 0
  have zf0 := hz.fz 0
  have zc1 : w2.cell? ⟨w.heap.size + 1, 1, none⟩ = some z1 := hz.cell 1
  have zf1 := hz.fz 1
  have zc2 : w2.cell? ⟨w.heap.size + 1, 2, none⟩ = some z2 := hz.cell 2
  have zf2 := hz.fz 2
  have zc3 : w2.cell? ⟨w.heap.size + 1, 3, none⟩ = some z3 := hz.cell 3
  have zf3 := hz.fz 3
  have zc4 : w2.cell? ⟨w.heap.size + 1, 4, none⟩ = some z4 := hz.cell 4
  have zf4 := hz.fz 4
  have zc5 : w2.cell? ⟨w.heap.size + 1, 5, none⟩ = some z5 := hz.cell 5
  have zf5 := hz.fz 5
  have zc6 : w2.cell? ⟨w.heap.size + 1, 6, none⟩ = some z6 := hz.cell 6
  have zf6 := hz.fz 6
  have zc7 : w2.cell? ⟨w.heap.size + 1, 7, none⟩ = some z7 := hz.cell 7
  have zf7 := hz.fz 7
  have hz9 := hz.set8 (.int .i64 3) (.int .i64 0) (.int .i64 0) (.string ⟨#[]⟩) (.string ⟨#[]⟩) (.slice KK (kidS f true).length cc) (.int .i64 0) (.int .i64 0)
  have hb9 := below_set8 (W := w2) (B := w.heap.size + 1) (b := w.heap.size + 1) (Nat.le_refl _) (.int .i64 3) (.int .i64 0) (.int .i64 0) (.string ⟨#[]⟩) (.string ⟨#[]⟩) (.slice KK (kidS f true).length cc) (.int .i64 0) (.int .i64 0)
  have HBZ := Lib.hid (HS2.out.below.trans (hb9.mono (by omega)))
  have HZ9 := Lib.hid hz9
  clear hz9 hb9
  go_wp2
  have r0 := HZ9.out.cell 0
  have r1 := HZ9.out.cell 1
  have r2 := HZ9.out.cell 2
  have r3 := HZ9.out.cell 3
  have r4 := HZ9.out.cell 4
  have r5 := HZ9.out.cell 5
  have r6 := HZ9.out.cell 6
  have r7 := HZ9.out.cell 7
  clear zc0 zf0 zc1 zf1 zc2 zf2 zc3 zf3 zc4 zf4 zc5 zf5 zc6 zf6 zc7 zf7
  refine bodyPost_ret (v := .tuple #[.agg #[.int .i64 3, .int .i64 0, .int .i64 0, .string ⟨#[]⟩, .string ⟨#[]⟩, .slice KK (kidS f true).length cc, .int .i64 0, .int .i64 0], .int .i64 0]) ?_ rfl ⟨KK, cc, by rw [HK.out], HK.out ▸ HSE.out, HBZ.out⟩
  rw [results_cell_tmp rfl]
  go_simp

set_option maxRecDepth 100000 in
set_option maxHeartbeats 1000000 in
theorem refWrite_b (f : Fm) (w : World) (hf : FmS f) (hb : formB f = true) (h1 : f.fr = minT) (h2 : ¬ f.til = maxT) : Calls Tryd.prog 8 #[.agg #[.int .i64 f.op, .int .i64 f.e.k, .int .i64 f.e.n, .string f.e.nm, .int .i64 f.e.vk, .int .i64 f.e.vn, .string f.e.vs, .string f.a, .bool f.v.ent, .int .i64 f.v.vk, .int .i64 f.v.vn, .string f.v.vs, .int .i64 f.v.e.k, .int .i64 f.v.e.n, .string f.v.e.nm, .int .i64 f.v.e.vk, .int .i64 f.v.e.vn, .string f.v.e.vs, .bool f.old.ent, .int .i64 f.old.vk, .int .i64 f.old.vn, .string f.old.vs, .int .i64 f.old.e.k, .int .i64 f.old.e.n, .string f.old.e.nm, .int .i64 f.old.e.vk, .int .i64 f.old.e.vn, .string f.old.e.vs, .int .i64 f.fr, .int .i64 f.til]] w (WrEnd f w) := by
  have HMay := Lib.hid (fun W => refFrm_any f W hf)
  have HNd := Lib.hid (fun W => refNode_any f true W (formB_op hb).1 (formB_op hb).2)
  have HK : Hid (kidS f true = kidL f) := by
    have := kidS_L f
    rw [decide_eq_true h1, decide_eq_false h2] at this
    show _ = _
    rw [← this]
    rfl
  rw [hb] at HMay
  have d1 : (f.fr == (-9223372036854775808 : Int)) = true := by rw [h1]; rfl
  have d2 : (f.fr != (-9223372036854775808 : Int)) = false := by simp [bne, d1]
  have d3 : (f.til == (9223372036854775807 : Int)) = false := by have := h2; unfold maxT at this; simpa using this
  have d4 : (f.til != (9223372036854775807 : Int)) = true := by simp [bne, d3]
  clear h1 h2 hb d1 d3
  obtain ⟨w0, hw0⟩ : ∃ w0, (w.alloc (.cells #[.int .i64 f.op, .int .i64 f.e.k, .int .i64 f.e.n, .string f.e.nm, .int .i64 f.e.vk, .int .i64 f.e.vn, .string f.e.vs, .string f.a, .bool f.v.ent, .int .i64 f.v.vk, .int .i64 f.v.vn, .string f.v.vs, .int .i64 f.v.e.k, .int .i64 f.v.e.n, .string f.v.e.nm, .int .i64 f.v.e.vk, .int .i64 f.v.e.vn, .string f.v.e.vs, .bool f.old.ent, .int .i64 f.old.vk, .int .i64 f.old.vn, .string f.old.vs, .int .i64 f.old.e.k, .int .i64 f.old.e.n, .string f.old.e.nm, .int .i64 f.old.e.vk, .int .i64 f.old.e.vn, .string f.old.e.vs, .int .i64 f.fr, .int .i64 f.til] 29)).alloc (.cells #[.int .i64 0, .int .i64 0, .int .i64 0, .string ⟨#[]⟩, .string ⟨#[]⟩, .slice none 0 0, .int .i64 0, .int .i64 0] 35) = w0 := ⟨_, rfl⟩
  have HS0 : Hid (SBx w #[.int .i64 f.op, .int .i64 f.e.k, .int .i64 f.e.n, .string f.e.nm, .int .i64 f.e.vk, .int .i64 f.e.vn, .string f.e.vs, .string f.a, .bool f.v.ent, .int .i64 f.v.vk, .int .i64 f.v.vn, .string f.v.vs, .int .i64 f.v.e.k, .int .i64 f.v.e.n, .string f.v.e.nm, .int .i64 f.v.e.vk, .int .i64 f.v.e.vn, .string f.v.e.vs, .bool f.old.ent, .int .i64 f.old.vk, .int .i64 f.old.vn, .string f.old.vs, .int .i64 f.old.e.k, .int .i64 f.old.e.n, .string f.old.e.nm, .int .i64 f.old.e.vk, .int .i64 f.old.e.vn, .string f.old.e.vs, .int .i64 f.fr, .int .i64 f.til] 29 w0) := by rw [← hw0]; exact sbx_new w _ _
  go_enter Tryd.func8, Tryd.ntmps8
  go_upto_region 1 with (fail)
  try rw [hw0]
  clear hw0
  refine wp_region_lit ?_
  refine wpList_load_row rfl 29 _ rfl w.heap.size rfl 29 _ (0, 0) _ HS0.out.x Tryd.underlying29 rfl sizeF ?_
  go_wp2_with fail
  refine (HMay.out _).mono ?_
  rintro e9 w1 ⟨rfl, hb⟩
  have HS1 := Lib.hid (HS0.out.next hb)
  clear hb
  go_upto_region 4 with (fail)
  have c28 : w1.cell? ⟨w.heap.size, 28, none⟩ = some (.int .i64 f.fr) := HS1.out.x.cell 28
  have c29 : w1.cell? ⟨w.heap.size, 29, none⟩ = some (.int .i64 f.til) := HS1.out.x.cell 29
  refine wp_region_lit ?_
  refine wpList_load_row rfl 29 _ rfl w.heap.size rfl 29 _ (0, 0) _ HS1.out.x Tryd.underlying29 rfl sizeF ?_
  go_wp2_with fail
  refine (HNd.out _).mono ?_
  rintro e9 w2 ⟨KK, cc, rfl, hsl, hb⟩
  have HS2 := Lib.hid (HS1.out.next hb)
  have HSL := Lib.hid hsl
  have hz1 := HS1.out.size
  have hz2 := hb.size
  clear hsl hb
  have hk9 : ∀ b', w.heap.size + 2 ≤ b' → ((((((((w2.setCell ⟨w.heap.size + 1, 0, none⟩ (.int .i64 3)).setCell ⟨w.heap.size + 1, 1, none⟩ (.int .i64 0)).setCell ⟨w.heap.size + 1, 2, none⟩ (.int .i64 0)).setCell ⟨w.heap.size + 1, 3, none⟩ (.string ⟨#[]⟩)).setCell ⟨w.heap.size + 1, 4, none⟩ (.string ⟨#[]⟩)).setCell ⟨w.heap.size + 1, 5, none⟩ (.slice KK (kidS f true).length cc)).setCell ⟨w.heap.size + 1, 6, none⟩ (.int .i64 0)).setCell ⟨w.heap.size + 1, 7, none⟩ (.int .i64 0)).heap[b']? = w2.heap[b']? := fun b' hb' => heap_off8 (by omega) (.int .i64 3) (.int .i64 0) (.int .i64 0) (.string ⟨#[]⟩) (.string ⟨#[]⟩) (.slice KK (kidS f true).length cc) (.int .i64 0) (.int .i64 0)
  have hs9 := size_set8 (W := w2) (b := w.heap.size + 1) (.int .i64 3) (.int .i64 0) (.int .i64 0) (.string ⟨#[]⟩) (.string ⟨#[]⟩) (.slice KK (kidS f true).length cc) (.int .i64 0) (.int .i64 0)
  have HSE : Hid (SlN 2 ((((((((w2.setCell ⟨w.heap.size + 1, 0, none⟩ (.int .i64 3)).setCell ⟨w.heap.size + 1, 1, none⟩ (.int .i64 0)).setCell ⟨w.heap.size + 1, 2, none⟩ (.int .i64 0)).setCell ⟨w.heap.size + 1, 3, none⟩ (.string ⟨#[]⟩)).setCell ⟨w.heap.size + 1, 4, none⟩ (.string ⟨#[]⟩)).setCell ⟨w.heap.size + 1, 5, none⟩ (.slice KK (kidS f true).length cc)).setCell ⟨w.heap.size + 1, 6, none⟩ (.int .i64 0)).setCell ⟨w.heap.size + 1, 7, none⟩ (.int .i64 0)) (fun b => b < ((((((((w2.setCell ⟨w.heap.size + 1, 0, none⟩ (.int .i64 3)).setCell ⟨w.heap.size + 1, 1, none⟩ (.int .i64 0)).setCell ⟨w.heap.size + 1, 2, none⟩ (.int .i64 0)).setCell ⟨w.heap.size + 1, 3, none⟩ (.string ⟨#[]⟩)).setCell ⟨w.heap.size + 1, 4, none⟩ (.string ⟨#[]⟩)).setCell ⟨w.heap.size + 1, 5, none⟩ (.slice KK (kidS f true).length cc)).setCell ⟨w.heap.size + 1, 6, none⟩ (.int .i64 0)).setCell ⟨w.heap.size + 1, 7, none⟩ (.int .i64 0)).heap.size) KK (kidS f true)) := (HSL.out.keep (fun b hb => hk9 b (by have := hb.1; omega))).mono (fun b hb => by rw [hs9]; exact hb.2)
  clear hk9 hs9
  obtain ⟨cs, hcs, hz⟩ := HS2.out.z
  obtain ⟨z0, z1, z2, z3, z4, z5, z6, z7, rfl⟩ := arr8 hcs
  have zc0 : w2.cell? ⟨w.heap.size + 1, 0, none⟩ = some z0 := hz.cell 0
  have zf0 := hz.fz 0
  have zc1 : w2.cell? ⟨w.heap.size + 1, 1, none⟩ = some z1 := hz.cell 1
  have zf1 := hz.fz 1
  have zc2 : w2.cell? ⟨w.heap.size + 1, 2, none⟩ = some z2 := hz.cell 2
  have zf2 := hz.fz 2
  have zc3 : w2.cell? ⟨w.heap.size + 1, 3, none⟩ = some z3 := hz.cell 3
  have zf3 := hz.fz 3
  have zc4 : w2.cell? ⟨w.heap.size + 1, 4, none⟩ = some z4 := hz.cell 4
  have zf4 := hz.fz 4
  have zc5 : w2.cell? ⟨w.heap.size + 1, 5, none⟩ = some z5 := hz.cell 5
  have zf5 := hz.fz 5
  have zc6 : w2.cell? ⟨w.heap.size + 1, 6, none⟩ = some z6 := hz.cell 6
  have zf6 := hz.fz 6
  have zc7 : w2.cell? ⟨w.heap.size + 1, 7, none⟩ = some z7 := hz.cell 7
  have zf7 := hz.fz 7
  have hz9 := hz.set8 (.int .i64 3) (.int .i64 0) (.int .i64 0) (.string ⟨#[]⟩) (.string ⟨#[]⟩) (.slice KK (kidS f true).length cc) (.int .i64 0) (.int .i64 0)
  have hb9 := below_set8 (W := w2) (B := w.heap.size + 1) (b := w.heap.size + 1) (Nat.le_refl _) (.int .i64 3) (.int .i64 0) (.int .i64 0) (.string ⟨#[]⟩) (.string ⟨#[]⟩) (.slice KK (kidS f true).length cc) (.int .i64 0) (.int .i64 0)
  have HBZ := Lib.hid (HS2.out.below.trans (hb9.mono (by omega)))
  have HZ9 := Lib.hid hz9
  clear hz9 hb9
  go_wp2
  have r0 := HZ9.out.cell 0
  have r1 := HZ9.out.cell 1
  have r2 := HZ9.out.cell 2
  have r3 := HZ9.out.cell 3
  have r4 := HZ9.out.cell 4
  have r5 := HZ9.out.cell 5
  have r6 := HZ9.out.cell 6
  have r7 := HZ9.out.cell 7
  clear zc0 zf0 zc1 zf1 zc2 zf2 zc3 zf3 zc4 zf4 zc5 zf5 zc6 zf6 zc7 zf7
  refine bodyPost_ret (v := .tuple #[.agg #[.int .i64 3, .int .i64 0, .int .i64 0, .string ⟨#[]⟩, .string ⟨#[]⟩, .slice KK (kidS f true).length cc, .int .i64 0, .int .i64 0], .int .i64 0]) ?_ rfl ⟨KK, cc, by rw [HK.out], HK.out ▸ HSE.out, HBZ.out⟩
  rw [results_cell_tmp rfl]
  go_simp

set_option maxRecDepth 100000 in
set_option maxHeartbeats 1000000 in
theorem refWrite_c (f : Fm) (w : World) (hf : FmS f) (hb : formB f = true) (h1 : f.fr = minT) (h2 : f.til = maxT) : Calls Tryd.prog 8 #[.agg #[.int .i64 f.op, .int .i64 f.e.k, .int .i64 f.e.n, .string f.e.nm, .int .i64 f.e.vk, .int .i64 f.e.vn, .string f.e.vs, .string f.a, .bool f.v.ent, .int .i64 f.v.vk, .int .i64 f.v.vn, .string f.v.vs, .int .i64 f.v.e.k, .int .i64 f.v.e.n, .string f.v.e.nm, .int .i64 f.v.e.vk, .int .i64 f.v.e.vn, .string f.v.e.vs, .bool f.old.ent, .int .i64 f.old.vk, .int .i64 f.old.vn, .string f.old.vs, .int .i64 f.old.e.k, .int .i64 f.old.e.n, .string f.old.e.nm, .int .i64 f.old.e.vk, .int .i64 f.old.e.vn, .string f.old.e.vs, .int .i64 f.fr, .int .i64 f.til]] w (WrEnd f w) := by
  have HMay := Lib.hid (fun W => refFrm_any f W hf)
  have HNd := Lib.hid (fun W => refNode_any f false W (formB_op hb).1 (formB_op hb).2)
  have HK : Hid (kidS f false = kidL f) := by
    have := kidS_L f
    rw [decide_eq_true h1, decide_eq_true h2] at this
    show _ = _
    rw [← this]
    rfl
  rw [hb] at HMay
  have d1 : (f.fr == (-9223372036854775808 : Int)) = true := by rw [h1]; rfl
  have d2 : (f.fr != (-9223372036854775808 : Int)) = false := by simp [bne, d1]
  have d3 : (f.til == (9223372036854775807 : Int)) = true := by rw [h2]; rfl
  have d4 : (f.til != (9223372036854775807 : Int)) = false := by simp [bne, d3]
  clear h1 h2 hb d1 d3
  obtain ⟨w0, hw0⟩ : ∃ w0, (w.alloc (.cells #[.int .i64 f.op, .int .i64 f.e.k, .int .i64 f.e.n, .string f.e.nm, .int .i64 f.e.vk, .int .i64 f.e.vn, .string f.e.vs, .string f.a, .bool f.v.ent, .int .i64 f.v.vk, .int .i64 f.v.vn, .string f.v.vs, .int .i64 f.v.e.k, .int .i64 f.v.e.n, .string f.v.e.nm, .int .i64 f.v.e.vk, .int .i64 f.v.e.vn, .string f.v.e.vs, .bool f.old.ent, .int .i64 f.old.vk, .int .i64 f.old.vn, .string f.old.vs, .int .i64 f.old.e.k, .int .i64 f.old.e.n, .string f.old.e.nm, .int .i64 f.old.e.vk, .int .i64 f.old.e.vn, .string f.old.e.vs, .int .i64 f.fr, .int .i64 f.til] 29)).alloc (.cells #[.int .i64 0, .int .i64 0, .int .i64 0, .string ⟨#[]⟩, .string ⟨#[]⟩, .slice none 0 0, .int .i64 0, .int .i64 0] 35) = w0 := ⟨_, rfl⟩
  have HS0 : Hid (SBx w #[.int .i64 f.op, .int .i64 f.e.k, .int .i64 f.e.n, .string f.e.nm, .int .i64 f.e.vk, .int .i64 f.e.vn, .string f.e.vs, .string f.a, .bool f.v.ent, .int .i64 f.v.vk, .int .i64 f.v.vn, .string f.v.vs, .int .i64 f.v.e.k, .int .i64 f.v.e.n, .string f.v.e.nm, .int .i64 f.v.e.vk, .int .i64 f.v.e.vn, .string f.v.e.vs, .bool f.old.ent, .int .i64 f.old.vk, .int .i64 f.old.vn, .string f.old.vs, .int .i64 f.old.e.k, .int .i64 f.old.e.n, .string f.old.e.nm, .int .i64 f.old.e.vk, .int .i64 f.old.e.vn, .string f.old.e.vs, .int .i64 f.fr, .int .i64 f.til] 29 w0) := by rw [← hw0]; exact sbx_new w _ _
  go_enter Tryd.func8, Tryd.ntmps8
  go_upto_region 1 with (fail)
  try rw [hw0]
  clear hw0
  refine wp_region_lit ?_
  refine wpList_load_row rfl 29 _ rfl w.heap.size rfl 29 _ (0, 0) _ HS0.out.x Tryd.underlying29 rfl sizeF ?_
  go_wp2_with fail
  refine (HMay.out _).mono ?_
  rintro e9 w1 ⟨rfl, hb⟩
  have HS1 := Lib.hid (HS0.out.next hb)
  clear hb
  go_upto_region 4 with (fail)
  have c28 : w1.cell? ⟨w.heap.size, 28, none⟩ = some (.int .i64 f.fr) := HS1.out.x.cell 28
  have c29 : w1.cell? ⟨w.heap.size, 29, none⟩ = some (.int .i64 f.til) := HS1.out.x.cell 29
  refine wp_region_lit ?_
  refine wpList_load_row rfl 29 _ rfl w.heap.size rfl 29 _ (0, 0) _ HS1.out.x Tryd.underlying29 rfl sizeF ?_
  go_wp2_with fail
  refine (HNd.out _).mono ?_
  rintro e9 w2 ⟨KK, cc, rfl, hsl, hb⟩
  have HS2 := Lib.hid (HS1.out.next hb)
  have HSL := Lib.hid hsl
  have hz1 := HS1.out.size
  have hz2 := hb.size
  clear hsl hb
  have hk9 : ∀ b', w.heap.size + 2 ≤ b' → ((((((((w2.setCell ⟨w.heap.size + 1, 0, none⟩ (.int .i64 3)).setCell ⟨w.heap.size + 1, 1, none⟩ (.int .i64 0)).setCell ⟨w.heap.size + 1, 2, none⟩ (.int .i64 0)).setCell ⟨w.heap.size + 1, 3, none⟩ (.string ⟨#[]⟩)).setCell ⟨w.heap.size + 1, 4, none⟩ (.string ⟨#[]⟩)).setCell ⟨w.heap.size + 1, 5, none⟩ (.slice KK (kidS f false).length cc)).setCell ⟨w.heap.size + 1, 6, none⟩ (.int .i64 0)).setCell ⟨w.heap.size + 1, 7, none⟩ (.int .i64 0)).heap[b']? = w2.heap[b']? := fun b' hb' => heap_off8 (by omega) (.int .i64 3) (.int .i64 0) (.int .i64 0) (.string ⟨#[]⟩) (.string ⟨#[]⟩) (.slice KK (kidS f false).length cc) (.int .i64 0) (.int .i64 0)
  have hs9 := size_set8 (W := w2) (b := w.heap.size + 1) (.int .i64 3) (.int .i64 0) (.int .i64 0) (.string ⟨#[]⟩) (.string ⟨#[]⟩) (.slice KK (kidS f false).length cc) (.int .i64 0) (.int .i64 0)
  have HSE : Hid (SlN 2 ((((((((w2.setCell ⟨w.heap.size + 1, 0, none⟩ (.int .i64 3)).setCell ⟨w.heap.size + 1, 1, none⟩ (.int .i64 0)).setCell ⟨w.heap.size + 1, 2, none⟩ (.int .i64 0)).setCell ⟨w.heap.size + 1, 3, none⟩ (.string ⟨#[]⟩)).setCell ⟨w.heap.size + 1, 4, none⟩ (.string ⟨#[]⟩)).setCell ⟨w.heap.size + 1, 5, none⟩ (.slice KK (kidS f false).length cc)).setCell ⟨w.heap.size + 1, 6, none⟩ (.int .i64 0)).setCell ⟨w.heap.size + 1, 7, none⟩ (.int .i64 0)) (fun b => b < ((((((((w2.setCell ⟨w.heap.size + 1, 0, none⟩ (.int .i64 3)).setCell ⟨w.heap.size + 1, 1, none⟩ (.int .i64 0)).setCell ⟨w.heap.size + 1, 2, none⟩ (.int .i64 0)).setCell ⟨w.heap.size + 1, 3, none⟩ (.string ⟨#[]⟩)).setCell ⟨w.heap.size + 1, 4, none⟩ (.string ⟨#[]⟩)).setCell ⟨w.heap.size + 1, 5, none⟩ (.slice KK (kidS f false).length cc)).setCell ⟨w.heap.size + 1, 6, none⟩ (.int .i64 0)).setCell ⟨w.heap.size + 1, 7, none⟩ (.int .i64 0)).heap.size) KK (kidS f false)) := (HSL.out.keep (fun b hb => hk9 b (by have := hb.1; omega))).mono (fun b hb => by rw [hs9]; exact hb.2)
  clear hk9 hs9
  obtain ⟨cs, hcs, hz⟩ := HS2.out.z
  obtain ⟨z0, z1, z2, z3, z4, z5, z6, z7, rfl⟩ := arr8 hcs
  have zc0 : w2.cell? ⟨w.heap.size + 1, 0, none⟩ = some z0 := hz.cell 0
  have zf0 := hz.fz 0
  have zc1 : w2.cell? ⟨w.heap.size + 1, 1, none⟩ = some z1 := hz.cell 1
  have zf1 := hz.fz 1
  have zc2 : w2.cell? ⟨w.heap.size + 1, 2, none⟩ = some z2 := hz.cell 2
  have zf2 := hz.fz 2
  have zc3 : w2.cell? ⟨w.heap.size + 1, 3, none⟩ = some z3 := hz.cell 3
  have zf3 := hz.fz 3
  have zc4 : w2.cell? ⟨w.heap.size + 1, 4, none⟩ = some z4 := hz.cell 4
  have zf4 := hz.fz 4
  have zc5 : w2.cell? ⟨w.heap.size + 1, 5, none⟩ = some z5 := hz.cell 5
  have zf5 := hz.fz 5
  have zc6 : w2.cell? ⟨w.heap.size + 1, 6, none⟩ = some z6 := hz.cell 6
  have zf6 := hz.fz 6
  have zc7 : w2.cell? ⟨w.heap.size + 1, 7, none⟩ = some z7 := hz.cell 7
  have zf7 := hz.fz 7
  have hz9 := hz.set8 (.int .i64 3) (.int .i64 0) (.int .i64 0) (.string ⟨#[]⟩) (.string ⟨#[]⟩) (.slice KK (kidS f false).length cc) (.int .i64 0) (.int .i64 0)
  have hb9 := below_set8 (W := w2) (B := w.heap.size + 1) (b := w.heap.size + 1) (Nat.le_refl _) (.int .i64 3) (.int .i64 0) (.int .i64 0) (.string ⟨#[]⟩) (.string ⟨#[]⟩) (.slice KK (kidS f false).length cc) (.int .i64 0) (.int .i64 0)
  have HBZ := Lib.hid (HS2.out.below.trans (hb9.mono (by omega)))
  have HZ9 := Lib.hid hz9
  clear hz9 hb9
  go_wp2
  have r0 := HZ9.out.cell 0
  have r1 := HZ9.out.cell 1
  have r2 := HZ9.out.cell 2
  have r3 := HZ9.out.cell 3
  have r4 := HZ9.out.cell 4
  have r5 := HZ9.out.cell 5
  have r6 := HZ9.out.cell 6
  have r7 := HZ9.out.cell 7
  clear zc0 zf0 zc1 zf1 zc2 zf2 zc3 zf3 zc4 zf4 zc5 zf5 zc6 zf6 zc7 zf7
  refine bodyPost_ret (v := .tuple #[.agg #[.int .i64 3, .int .i64 0, .int .i64 0, .string ⟨#[]⟩, .string ⟨#[]⟩, .slice KK (kidS f false).length cc, .int .i64 0, .int .i64 0], .int .i64 0]) ?_ rfl ⟨KK, cc, by rw [HK.out], HK.out ▸ HSE.out, HBZ.out⟩
  rw [results_cell_tmp rfl]
  go_simp
/-- CONTRACT: the document's Write, of a form that may be. -/
theorem refWrite_yes (f : Fm) (w : World) (hf : FmS f) (hb : formB f = true) : Calls Tryd.prog 8 #[.agg #[.int .i64 f.op, .int .i64 f.e.k, .int .i64 f.e.n, .string f.e.nm, .int .i64 f.e.vk, .int .i64 f.e.vn, .string f.e.vs, .string f.a, .bool f.v.ent, .int .i64 f.v.vk, .int .i64 f.v.vn, .string f.v.vs, .int .i64 f.v.e.k, .int .i64 f.v.e.n, .string f.v.e.nm, .int .i64 f.v.e.vk, .int .i64 f.v.e.vn, .string f.v.e.vs, .bool f.old.ent, .int .i64 f.old.vk, .int .i64 f.old.vn, .string f.old.vs, .int .i64 f.old.e.k, .int .i64 f.old.e.n, .string f.old.e.nm, .int .i64 f.old.e.vk, .int .i64 f.old.e.vn, .string f.old.e.vs, .int .i64 f.fr, .int .i64 f.til]] w (WrEnd f w) := by
  by_cases h1 : f.fr = minT
  · by_cases h2 : f.til = maxT
    · exact refWrite_c f w hf hb h1 h2
    · exact refWrite_b f w hf hb h1 h2
  · exact refWrite_a f w hf hb h1
/-- CONTRACT: Write, of a form that may be. -/
theorem write_any (f : Fm) (w : World) (hf : FmS f) (hb : formB f = true) (hn : NamesAt w) (hfr : minT ≤ f.fr) (hto : f.til ≤ maxT) : Calls Tryd.prog 7 #[.agg #[.int .i64 f.op, .int .i64 f.e.k, .int .i64 f.e.n, .string f.e.nm, .int .i64 f.e.vk, .int .i64 f.e.vn, .string f.e.vs, .string f.a, .bool f.v.ent, .int .i64 f.v.vk, .int .i64 f.v.vn, .string f.v.vs, .int .i64 f.v.e.k, .int .i64 f.v.e.n, .string f.v.e.nm, .int .i64 f.v.e.vk, .int .i64 f.v.e.vn, .string f.v.e.vs, .bool f.old.ent, .int .i64 f.old.vk, .int .i64 f.old.vn, .string f.old.vs, .int .i64 f.old.e.k, .int .i64 f.old.e.n, .string f.old.e.nm, .int .i64 f.old.e.vk, .int .i64 f.old.e.vn, .string f.old.e.vs, .int .i64 f.fr, .int .i64 f.til]] w (WrEnd f w) := by
  obtain ⟨h1, h2⟩ := formB_op hb
  obtain ⟨op, e, a, v, old, fr, til⟩ := f
  obtain ⟨k, rfl⟩ : ∃ k : Nat, op = (k : Int) := ⟨op.toNat, by simp only at h1; omega⟩
  exact write_yes k e a v old fr til w hf (by simp only at h1; omega) (by simp only at h2; omega) hn hb hfr hto

end Go.Proofs.YtdjdlfndmeegnaaDoor
