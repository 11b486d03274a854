/-
  CONTRACTS: termNode; the document's what.
-/
import Derived.Test.YtdjdlfndmeegnaaDoorKEnod2
namespace Go.Proofs.YtdjdlfndmeegnaaDoor
open Go.RowKit

set_option maxRecDepth 100000 in
set_option maxHeartbeats 1000000 in
theorem trmNode_t (vk vn : Int) (vs : ByteArray) (x : En) (w : World) :
    Calls Tryd.prog 20 #[.agg #[.bool true, .int .i64 vk, .int .i64 vn, .string vs, .int .i64 x.k, .int .i64 x.n, .string x.nm, .int .i64 x.vk, .int .i64 x.vn, .string x.vs]] w (NdEnd w 1 (trmN ⟨true, vk, vn, vs, x⟩)) := by
  show Calls _ _ _ _ (NdEnd w 1 (entN x))
  have HV := Lib.hid (fun W => entNode_any x W)
  obtain ⟨X, hX⟩ : ∃ X, entN x = X := ⟨_, rfl⟩
  rw [hX] at HV ⊢
  clear hX
  obtain ⟨w0, hw0⟩ : ∃ w0, (w.alloc (.cells #[.bool true, .int .i64 vk, .int .i64 vn, .string vs, .int .i64 x.k, .int .i64 x.n, .string x.nm, .int .i64 x.vk, .int .i64 x.vn, .string x.vs] 27)).alloc (.cells #[.int .i64 0, .int .i64 0, .int .i64 0, .string ⟨#[]⟩, .string ⟨#[]⟩, .slice none 0 0, .int .i64 0, .int .i64 0] 35) = w0 := ⟨_, rfl⟩
  have HS0 : Hid (SBx w #[.bool true, .int .i64 vk, .int .i64 vn, .string vs, .int .i64 x.k, .int .i64 x.n, .string x.nm, .int .i64 x.vk, .int .i64 x.vn, .string x.vs] 27 w0) := by rw [← hw0]; exact sbx_new w _ _
  go_enter Tryd.func20, Tryd.ntmps20
  go_upto_region 1 with (fail)
  try rw [hw0]
  clear hw0
  have c0 : w0.cell? ⟨w.heap.size, 0, none⟩ = some (.bool true) := HS0.out.x.cell 0
  have c1 : w0.cell? ⟨w.heap.size, 1, none⟩ = some (.int .i64 vk) := HS0.out.x.cell 1
  have c2 : w0.cell? ⟨w.heap.size, 2, none⟩ = some (.int .i64 vn) := HS0.out.x.cell 2
  have c3 : w0.cell? ⟨w.heap.size, 3, none⟩ = some (.string vs) := HS0.out.x.cell 3
  have c4 : w0.cell? ⟨w.heap.size, 4, none⟩ = some (.int .i64 x.k) := HS0.out.x.cell 4
  have c5 : w0.cell? ⟨w.heap.size, 5, none⟩ = some (.int .i64 x.n) := HS0.out.x.cell 5
  have c6 : w0.cell? ⟨w.heap.size, 6, none⟩ = some (.string x.nm) := HS0.out.x.cell 6
  have c7 : w0.cell? ⟨w.heap.size, 7, none⟩ = some (.int .i64 x.vk) := HS0.out.x.cell 7
  have c8 : w0.cell? ⟨w.heap.size, 8, none⟩ = some (.int .i64 x.vn) := HS0.out.x.cell 8
  have c9 : w0.cell? ⟨w.heap.size, 9, none⟩ = some (.string x.vs) := HS0.out.x.cell 9
  go_wp2_with fail
  refine (HV.out _).mono ?_
  rintro e9 w2 ⟨KK, cc, rfl, hsl, hb⟩
  have HSw2 := Lib.hid (HS0.out.next hb)
  have HL := Lib.hid hsl
  have hz1 := HS0.out.size
  have hz2 := hb.size
  clear hsl hb
  obtain ⟨cs, hcs, hz⟩ := HSw2.out.z
  obtain ⟨z0, z1, z2, z3, z4, z5, z6, z7, rfl⟩ := arr8 hcs
  have zc0 : w2.cell? ⟨w.heap.size + 1, 0, none⟩ = some z0 := hz.cell 0
  have zf0 := hz.fz 0
  have zc1 : w2.cell? ⟨w.heap.size + 1, 1, none⟩ = some z1 := hz.cell 1
  have zf1 := hz.fz 1
  have zc2 : w2.cell? ⟨w.heap.size + 1, 2, none⟩ = some z2 := hz.cell 2
  have zf2 := hz.fz 2
  have zc3 : w2.cell? ⟨w.heap.size + 1, 3, none⟩ = some z3 := hz.cell 3
  have zf3 := hz.fz 3
  have zc4 : w2.cell? ⟨w.heap.size + 1, 4, none⟩ = some z4 := hz.cell 4
  have zf4 := hz.fz 4
  have zc5 : w2.cell? ⟨w.heap.size + 1, 5, none⟩ = some z5 := hz.cell 5
  have zf5 := hz.fz 5
  have zc6 : w2.cell? ⟨w.heap.size + 1, 6, none⟩ = some z6 := hz.cell 6
  have zf6 := hz.fz 6
  have zc7 : w2.cell? ⟨w.heap.size + 1, 7, none⟩ = some z7 := hz.cell 7
  have zf7 := hz.fz 7
  have hk9 : ∀ b', w.heap.size + 1 < b' → ((((((((w2.setCell ⟨w.heap.size + 1, 0, none⟩ (.int .i64 X.k)).setCell ⟨w.heap.size + 1, 1, none⟩ (.int .i64 X.vk)).setCell ⟨w.heap.size + 1, 2, none⟩ (.int .i64 X.vn)).setCell ⟨w.heap.size + 1, 3, none⟩ (.string X.vs)).setCell ⟨w.heap.size + 1, 4, none⟩ (.string X.s)).setCell ⟨w.heap.size + 1, 5, none⟩ (.slice KK X.kids.length cc)).setCell ⟨w.heap.size + 1, 6, none⟩ (.int .i64 X.ln)).setCell ⟨w.heap.size + 1, 7, none⟩ (.int .i64 X.co)).heap[b']? = w2.heap[b']? := fun b' hb' => heap_off8 (by omega) (.int .i64 X.k) (.int .i64 X.vk) (.int .i64 X.vn) (.string X.vs) (.string X.s) (.slice KK X.kids.length cc) (.int .i64 X.ln) (.int .i64 X.co)
  have hz9 := hz.set8 (.int .i64 X.k) (.int .i64 X.vk) (.int .i64 X.vn) (.string X.vs) (.string X.s) (.slice KK X.kids.length cc) (.int .i64 X.ln) (.int .i64 X.co)
  have hb9 := below_set8 (W := w2) (B := w.heap.size + 1) (b := w.heap.size + 1) (Nat.le_refl _) (.int .i64 X.k) (.int .i64 X.vk) (.int .i64 X.vn) (.string X.vs) (.string X.s) (.slice KK X.kids.length cc) (.int .i64 X.ln) (.int .i64 X.co)
  have hs9 := size_set8 (W := w2) (b := w.heap.size + 1) (.int .i64 X.k) (.int .i64 X.vk) (.int .i64 X.vn) (.string X.vs) (.string X.s) (.slice KK X.kids.length cc) (.int .i64 X.ln) (.int .i64 X.co)
  have HBZ := HSw2.out.below.trans (hb9.mono (by omega))
  go_wp2
  refine bodyPost_ret (v := .agg #[.int .i64 X.k, .int .i64 X.vk, .int .i64 X.vn, .string X.vs, .string X.s, .slice KK X.kids.length cc, .int .i64 X.ln, .int .i64 X.co]) ?_ rfl ⟨KK, cc, rfl, HL.out.fr (fun b hb => hk9 b (by have := hb.1; omega)) (by omega) (by omega), HBZ⟩
  exact results_cell_row rfl _ _ (w.heap.size + 1) 35 _ (0, 0) _ rfl hz9 Tryd.underlying35 rfl sizeNd

set_option maxRecDepth 100000 in
set_option maxHeartbeats 1000000 in
theorem trmNode_f (vk vn : Int) (vs : ByteArray) (x : En) (w : World) :
    Calls Tryd.prog 20 #[.agg #[.bool false, .int .i64 vk, .int .i64 vn, .string vs, .int .i64 x.k, .int .i64 x.n, .string x.nm, .int .i64 x.vk, .int .i64 x.vn, .string x.vs]] w (NdEnd w 1 (trmN ⟨false, vk, vn, vs, x⟩)) := by
  show Calls _ _ _ _ (NdEnd w 1 (valN vk vn vs))
  obtain ⟨w0, hw0⟩ : ∃ w0, (w.alloc (.cells #[.bool false, .int .i64 vk, .int .i64 vn, .string vs, .int .i64 x.k, .int .i64 x.n, .string x.nm, .int .i64 x.vk, .int .i64 x.vn, .string x.vs] 27)).alloc (.cells #[.int .i64 0, .int .i64 0, .int .i64 0, .string ⟨#[]⟩, .string ⟨#[]⟩, .slice none 0 0, .int .i64 0, .int .i64 0] 35) = w0 := ⟨_, rfl⟩
  have HS0 : Hid (SBx w #[.bool false, .int .i64 vk, .int .i64 vn, .string vs, .int .i64 x.k, .int .i64 x.n, .string x.nm, .int .i64 x.vk, .int .i64 x.vn, .string x.vs] 27 w0) := by rw [← hw0]; exact sbx_new w _ _
  go_enter Tryd.func20, Tryd.ntmps20
  go_upto_region 1 with (fail)
  try rw [hw0]
  clear hw0
  have c0 : w0.cell? ⟨w.heap.size, 0, none⟩ = some (.bool false) := HS0.out.x.cell 0
  have c1 : w0.cell? ⟨w.heap.size, 1, none⟩ = some (.int .i64 vk) := HS0.out.x.cell 1
  have c2 : w0.cell? ⟨w.heap.size, 2, none⟩ = some (.int .i64 vn) := HS0.out.x.cell 2
  have c3 : w0.cell? ⟨w.heap.size, 3, none⟩ = some (.string vs) := HS0.out.x.cell 3
  have c4 : w0.cell? ⟨w.heap.size, 4, none⟩ = some (.int .i64 x.k) := HS0.out.x.cell 4
  have c5 : w0.cell? ⟨w.heap.size, 5, none⟩ = some (.int .i64 x.n) := HS0.out.x.cell 5
  have c6 : w0.cell? ⟨w.heap.size, 6, none⟩ = some (.string x.nm) := HS0.out.x.cell 6
  have c7 : w0.cell? ⟨w.heap.size, 7, none⟩ = some (.int .i64 x.vk) := HS0.out.x.cell 7
  have c8 : w0.cell? ⟨w.heap.size, 8, none⟩ = some (.int .i64 x.vn) := HS0.out.x.cell 8
  have c9 : w0.cell? ⟨w.heap.size, 9, none⟩ = some (.string x.vs) := HS0.out.x.cell 9
  go_wp2_with fail
  refine (valueNode_any vk vn vs _).mono ?_
  rintro e9 w2 ⟨rfl, hb⟩
  have HSw2 := Lib.hid (HS0.out.next hb)
  clear hb
  obtain ⟨cs, hcs, hz⟩ := HSw2.out.z
  obtain ⟨z0, z1, z2, z3, z4, z5, z6, z7, rfl⟩ := arr8 hcs
  have zc0 : w2.cell? ⟨w.heap.size + 1, 0, none⟩ = some z0 := hz.cell 0
  have zf0 := hz.fz 0
  have zc1 : w2.cell? ⟨w.heap.size + 1, 1, none⟩ = some z1 := hz.cell 1
  have zf1 := hz.fz 1
  have zc2 : w2.cell? ⟨w.heap.size + 1, 2, none⟩ = some z2 := hz.cell 2
  have zf2 := hz.fz 2
  have zc3 : w2.cell? ⟨w.heap.size + 1, 3, none⟩ = some z3 := hz.cell 3
  have zf3 := hz.fz 3
  have zc4 : w2.cell? ⟨w.heap.size + 1, 4, none⟩ = some z4 := hz.cell 4
  have zf4 := hz.fz 4
  have zc5 : w2.cell? ⟨w.heap.size + 1, 5, none⟩ = some z5 := hz.cell 5
  have zf5 := hz.fz 5
  have zc6 : w2.cell? ⟨w.heap.size + 1, 6, none⟩ = some z6 := hz.cell 6
  have zf6 := hz.fz 6
  have zc7 : w2.cell? ⟨w.heap.size + 1, 7, none⟩ = some z7 := hz.cell 7
  have zf7 := hz.fz 7
  have hz9 := hz.set8 (.int .i64 1) (.int .i64 vk) (.int .i64 vn) (.string vs) (.string ⟨#[]⟩) (.slice none 0 0) (.int .i64 0) (.int .i64 0)
  have hb9 := below_set8 (W := w2) (B := w.heap.size + 1) (b := w.heap.size + 1) (Nat.le_refl _) (.int .i64 1) (.int .i64 vk) (.int .i64 vn) (.string vs) (.string ⟨#[]⟩) (.slice none 0 0) (.int .i64 0) (.int .i64 0)
  have hs9 := size_set8 (W := w2) (b := w.heap.size + 1) (.int .i64 1) (.int .i64 vk) (.int .i64 vn) (.string vs) (.string ⟨#[]⟩) (.slice none 0 0) (.int .i64 0) (.int .i64 0)
  have HBZ := HSw2.out.below.trans (hb9.mono (by omega))
  go_wp2
  refine bodyPost_ret (v := .agg #[.int .i64 1, .int .i64 vk, .int .i64 vn, .string vs, .string ⟨#[]⟩, .slice none 0 0, .int .i64 0, .int .i64 0]) ?_ rfl ⟨none, 0, rfl, SlN.nil _ _ _ _, HBZ⟩
  exact results_cell_row rfl _ _ (w.heap.size + 1) 35 _ (0, 0) _ rfl hz9 Tryd.underlying35 rfl sizeNd
/-- CONTRACT: claim.termNode. -/
theorem trmNode_any (t : Tm) (w : World) : Calls Tryd.prog 20 #[.agg #[.bool t.ent, .int .i64 t.vk, .int .i64 t.vn, .string t.vs, .int .i64 t.e.k, .int .i64 t.e.n, .string t.e.nm, .int .i64 t.e.vk, .int .i64 t.e.vn, .string t.e.vs]] w (NdEnd w 1 (trmN t)) := by
  obtain ⟨ent, vk, vn, vs, x⟩ := t
  cases ent
  · exact trmNode_f vk vn vs x w
  · exact trmNode_t vk vn vs x w

set_option maxRecDepth 100000 in
set_option maxHeartbeats 1000000 in
theorem refWhat_t (vk vn : Int) (vs : ByteArray) (x : En) (w : World) :
    Calls Tryd.prog 46 #[.agg #[.bool true, .int .i64 vk, .int .i64 vn, .string vs, .int .i64 x.k, .int .i64 x.n, .string x.nm, .int .i64 x.vk, .int .i64 x.vn, .string x.vs]] w (NdEnd w 1 (trmN ⟨true, vk, vn, vs, x⟩)) := by
  show Calls _ _ _ _ (NdEnd w 1 (entN x))
  have HV := Lib.hid (fun W => refWho_any x W)
  obtain ⟨X, hX⟩ : ∃ X, entN x = X := ⟨_, rfl⟩
  rw [hX] at HV ⊢
  clear hX
  obtain ⟨w0, hw0⟩ : ∃ w0, (w.alloc (.cells #[.bool true, .int .i64 vk, .int .i64 vn, .string vs, .int .i64 x.k, .int .i64 x.n, .string x.nm, .int .i64 x.vk, .int .i64 x.vn, .string x.vs] 27)).alloc (.cells #[.int .i64 0, .int .i64 0, .int .i64 0, .string ⟨#[]⟩, .string ⟨#[]⟩, .slice none 0 0, .int .i64 0, .int .i64 0] 35) = w0 := ⟨_, rfl⟩
  have HS0 : Hid (SBx w #[.bool true, .int .i64 vk, .int .i64 vn, .string vs, .int .i64 x.k, .int .i64 x.n, .string x.nm, .int .i64 x.vk, .int .i64 x.vn, .string x.vs] 27 w0) := by rw [← hw0]; exact sbx_new w _ _
  go_enter Tryd.func46, Tryd.ntmps46
  go_upto_region 1 with (fail)
  try rw [hw0]
  clear hw0
  have c0 : w0.cell? ⟨w.heap.size, 0, none⟩ = some (.bool true) := HS0.out.x.cell 0
  have c1 : w0.cell? ⟨w.heap.size, 1, none⟩ = some (.int .i64 vk) := HS0.out.x.cell 1
  have c2 : w0.cell? ⟨w.heap.size, 2, none⟩ = some (.int .i64 vn) := HS0.out.x.cell 2
  have c3 : w0.cell? ⟨w.heap.size, 3, none⟩ = some (.string vs) := HS0.out.x.cell 3
  have c4 : w0.cell? ⟨w.heap.size, 4, none⟩ = some (.int .i64 x.k) := HS0.out.x.cell 4
  have c5 : w0.cell? ⟨w.heap.size, 5, none⟩ = some (.int .i64 x.n) := HS0.out.x.cell 5
  have c6 : w0.cell? ⟨w.heap.size, 6, none⟩ = some (.string x.nm) := HS0.out.x.cell 6
  have c7 : w0.cell? ⟨w.heap.size, 7, none⟩ = some (.int .i64 x.vk) := HS0.out.x.cell 7
  have c8 : w0.cell? ⟨w.heap.size, 8, none⟩ = some (.int .i64 x.vn) := HS0.out.x.cell 8
  have c9 : w0.cell? ⟨w.heap.size, 9, none⟩ = some (.string x.vs) := HS0.out.x.cell 9
  go_wp2_with fail
  refine (HV.out _).mono ?_
  rintro e9 w2 ⟨KK, cc, rfl, hsl, hb⟩
  have HSw2 := Lib.hid (HS0.out.next hb)
  have HL := Lib.hid hsl
  have hz1 := HS0.out.size
  have hz2 := hb.size
  clear hsl hb
  obtain ⟨cs, hcs, hz⟩ := HSw2.out.z
  obtain ⟨z0, z1, z2, z3, z4, z5, z6, z7, rfl⟩ := arr8 hcs
  have zc0 : w2.cell? ⟨w.heap.size + 1, 0, none⟩ = some z0 := hz.cell 0
  have zf0 := hz.fz 0
  have zc1 : w2.cell? ⟨w.heap.size + 1, 1, none⟩ = some z1 := hz.cell 1
  have zf1 := hz.fz 1
  have zc2 : w2.cell? ⟨w.heap.size + 1, 2, none⟩ = some z2 := hz.cell 2
  have zf2 := hz.fz 2
  have zc3 : w2.cell? ⟨w.heap.size + 1, 3, none⟩ = some z3 := hz.cell 3
  have zf3 := hz.fz 3
  have zc4 : w2.cell? ⟨w.heap.size + 1, 4, none⟩ = some z4 := hz.cell 4
  have zf4 := hz.fz 4
  have zc5 : w2.cell? ⟨w.heap.size + 1, 5, none⟩ = some z5 := hz.cell 5
  have zf5 := hz.fz 5
  have zc6 : w2.cell? ⟨w.heap.size + 1, 6, none⟩ = some z6 := hz.cell 6
  have zf6 := hz.fz 6
  have zc7 : w2.cell? ⟨w.heap.size + 1, 7, none⟩ = some z7 := hz.cell 7
  have zf7 := hz.fz 7
  have hk9 : ∀ b', w.heap.size + 1 < b' → ((((((((w2.setCell ⟨w.heap.size + 1, 0, none⟩ (.int .i64 X.k)).setCell ⟨w.heap.size + 1, 1, none⟩ (.int .i64 X.vk)).setCell ⟨w.heap.size + 1, 2, none⟩ (.int .i64 X.vn)).setCell ⟨w.heap.size + 1, 3, none⟩ (.string X.vs)).setCell ⟨w.heap.size + 1, 4, none⟩ (.string X.s)).setCell ⟨w.heap.size + 1, 5, none⟩ (.slice KK X.kids.length cc)).setCell ⟨w.heap.size + 1, 6, none⟩ (.int .i64 X.ln)).setCell ⟨w.heap.size + 1, 7, none⟩ (.int .i64 X.co)).heap[b']? = w2.heap[b']? := fun b' hb' => heap_off8 (by omega) (.int .i64 X.k) (.int .i64 X.vk) (.int .i64 X.vn) (.string X.vs) (.string X.s) (.slice KK X.kids.length cc) (.int .i64 X.ln) (.int .i64 X.co)
  have hz9 := hz.set8 (.int .i64 X.k) (.int .i64 X.vk) (.int .i64 X.vn) (.string X.vs) (.string X.s) (.slice KK X.kids.length cc) (.int .i64 X.ln) (.int .i64 X.co)
  have hb9 := below_set8 (W := w2) (B := w.heap.size + 1) (b := w.heap.size + 1) (Nat.le_refl _) (.int .i64 X.k) (.int .i64 X.vk) (.int .i64 X.vn) (.string X.vs) (.string X.s) (.slice KK X.kids.length cc) (.int .i64 X.ln) (.int .i64 X.co)
  have hs9 := size_set8 (W := w2) (b := w.heap.size + 1) (.int .i64 X.k) (.int .i64 X.vk) (.int .i64 X.vn) (.string X.vs) (.string X.s) (.slice KK X.kids.length cc) (.int .i64 X.ln) (.int .i64 X.co)
  have HBZ := HSw2.out.below.trans (hb9.mono (by omega))
  go_wp2
  refine bodyPost_ret (v := .agg #[.int .i64 X.k, .int .i64 X.vk, .int .i64 X.vn, .string X.vs, .string X.s, .slice KK X.kids.length cc, .int .i64 X.ln, .int .i64 X.co]) ?_ rfl ⟨KK, cc, rfl, HL.out.fr (fun b hb => hk9 b (by have := hb.1; omega)) (by omega) (by omega), HBZ⟩
  exact results_cell_row rfl _ _ (w.heap.size + 1) 35 _ (0, 0) _ rfl hz9 Tryd.underlying35 rfl sizeNd

set_option maxRecDepth 100000 in
set_option maxHeartbeats 1000000 in
theorem refWhat_f (vk vn : Int) (vs : ByteArray) (x : En) (w : World) :
    Calls Tryd.prog 46 #[.agg #[.bool false, .int .i64 vk, .int .i64 vn, .string vs, .int .i64 x.k, .int .i64 x.n, .string x.nm, .int .i64 x.vk, .int .i64 x.vn, .string x.vs]] w (NdEnd w 1 (trmN ⟨false, vk, vn, vs, x⟩)) := by
  show Calls _ _ _ _ (NdEnd w 1 (valN vk vn vs))
  obtain ⟨w0, hw0⟩ : ∃ w0, (w.alloc (.cells #[.bool false, .int .i64 vk, .int .i64 vn, .string vs, .int .i64 x.k, .int .i64 x.n, .string x.nm, .int .i64 x.vk, .int .i64 x.vn, .string x.vs] 27)).alloc (.cells #[.int .i64 0, .int .i64 0, .int .i64 0, .string ⟨#[]⟩, .string ⟨#[]⟩, .slice none 0 0, .int .i64 0, .int .i64 0] 35) = w0 := ⟨_, rfl⟩
  have HS0 : Hid (SBx w #[.bool false, .int .i64 vk, .int .i64 vn, .string vs, .int .i64 x.k, .int .i64 x.n, .string x.nm, .int .i64 x.vk, .int .i64 x.vn, .string x.vs] 27 w0) := by rw [← hw0]; exact sbx_new w _ _
  go_enter Tryd.func46, Tryd.ntmps46
  go_upto_region 1 with (fail)
  try rw [hw0]
  clear hw0
  have c0 : w0.cell? ⟨w.heap.size, 0, none⟩ = some (.bool false) := HS0.out.x.cell 0
  have c1 : w0.cell? ⟨w.heap.size, 1, none⟩ = some (.int .i64 vk) := HS0.out.x.cell 1
  have c2 : w0.cell? ⟨w.heap.size, 2, none⟩ = some (.int .i64 vn) := HS0.out.x.cell 2
  have c3 : w0.cell? ⟨w.heap.size, 3, none⟩ = some (.string vs) := HS0.out.x.cell 3
  have c4 : w0.cell? ⟨w.heap.size, 4, none⟩ = some (.int .i64 x.k) := HS0.out.x.cell 4
  have c5 : w0.cell? ⟨w.heap.size, 5, none⟩ = some (.int .i64 x.n) := HS0.out.x.cell 5
  have c6 : w0.cell? ⟨w.heap.size, 6, none⟩ = some (.string x.nm) := HS0.out.x.cell 6
  have c7 : w0.cell? ⟨w.heap.size, 7, none⟩ = some (.int .i64 x.vk) := HS0.out.x.cell 7
  have c8 : w0.cell? ⟨w.heap.size, 8, none⟩ = some (.int .i64 x.vn) := HS0.out.x.cell 8
  have c9 : w0.cell? ⟨w.heap.size, 9, none⟩ = some (.string x.vs) := HS0.out.x.cell 9
  go_wp2_with fail
  refine (refValue_any vk vn vs _).mono ?_
  rintro e9 w2 ⟨rfl, hb⟩
  have HSw2 := Lib.hid (HS0.out.next hb)
  clear hb
  obtain ⟨cs, hcs, hz⟩ := HSw2.out.z
  obtain ⟨z0, z1, z2, z3, z4, z5, z6, z7, rfl⟩ := arr8 hcs
  have zc0 : w2.cell? ⟨w.heap.size + 1, 0, none⟩ = some z0 := hz.cell 0
  have zf0 := hz.fz 0
  have zc1 : w2.cell? ⟨w.heap.size + 1, 1, none⟩ = some z1 := hz.cell 1
  have zf1 := hz.fz 1
  have zc2 : w2.cell? ⟨w.heap.size + 1, 2, none⟩ = some z2 := hz.cell 2
  have zf2 := hz.fz 2
  have zc3 : w2.cell? ⟨w.heap.size + 1, 3, none⟩ = some z3 := hz.cell 3
  have zf3 := hz.fz 3
  have zc4 : w2.cell? ⟨w.heap.size + 1, 4, none⟩ = some z4 := hz.cell 4
  have zf4 := hz.fz 4
  have zc5 : w2.cell? ⟨w.heap.size + 1, 5, none⟩ = some z5 := hz.cell 5
  have zf5 := hz.fz 5
  have zc6 : w2.cell? ⟨w.heap.size + 1, 6, none⟩ = some z6 := hz.cell 6
  have zf6 := hz.fz 6
  have zc7 : w2.cell? ⟨w.heap.size + 1, 7, none⟩ = some z7 := hz.cell 7
  have zf7 := hz.fz 7
  have hz9 := hz.set8 (.int .i64 1) (.int .i64 vk) (.int .i64 vn) (.string vs) (.string ⟨#[]⟩) (.slice none 0 0) (.int .i64 0) (.int .i64 0)
  have hb9 := below_set8 (W := w2) (B := w.heap.size + 1) (b := w.heap.size + 1) (Nat.le_refl _) (.int .i64 1) (.int .i64 vk) (.int .i64 vn) (.string vs) (.string ⟨#[]⟩) (.slice none 0 0) (.int .i64 0) (.int .i64 0)
  have hs9 := size_set8 (W := w2) (b := w.heap.size + 1) (.int .i64 1) (.int .i64 vk) (.int .i64 vn) (.string vs) (.string ⟨#[]⟩) (.slice none 0 0) (.int .i64 0) (.int .i64 0)
  have HBZ := HSw2.out.below.trans (hb9.mono (by omega))
  go_wp2
  refine bodyPost_ret (v := .agg #[.int .i64 1, .int .i64 vk, .int .i64 vn, .string vs, .string ⟨#[]⟩, .slice none 0 0, .int .i64 0, .int .i64 0]) ?_ rfl ⟨none, 0, rfl, SlN.nil _ _ _ _, HBZ⟩
  exact results_cell_row rfl _ _ (w.heap.size + 1) 35 _ (0, 0) _ rfl hz9 Tryd.underlying35 rfl sizeNd
/-- CONTRACT: daybookref08.what. -/
theorem refWhat_any (t : Tm) (w : World) : Calls Tryd.prog 46 #[.agg #[.bool t.ent, .int .i64 t.vk, .int .i64 t.vn, .string t.vs, .int .i64 t.e.k, .int .i64 t.e.n, .string t.e.nm, .int .i64 t.e.vk, .int .i64 t.e.vn, .string t.e.vs]] w (NdEnd w 1 (trmN t)) := by
  obtain ⟨ent, vk, vn, vs, x⟩ := t
  cases ent
  · exact refWhat_f vk vn vs x w
  · exact refWhat_t vk vn vs x w

end Go.Proofs.YtdjdlfndmeegnaaDoor
