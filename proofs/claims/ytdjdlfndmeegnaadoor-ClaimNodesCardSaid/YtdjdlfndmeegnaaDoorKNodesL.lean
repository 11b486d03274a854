/-
  THE LAW ClaimNodes, at a run.
-/
import Derived.Test.YtdjdlfndmeegnaaDoorKWr
import Derived.Test.YtdjdlfndmeegnaaDoorKGreat
import Derived.Test.YtdjdlfndmeegnaaDoorKPlaced
namespace Go.Proofs.YtdjdlfndmeegnaaDoor
open Go.RowKit
theorem SlN.one {d : Nat} {W : World} {b : Nat} {B : Nat → Prop} {x : Nd} {K : Option Addr} {c : Nat} (h : Blk W b #[.int .i64 x.k, .int .i64 x.vk, .int .i64 x.vn, .string x.vs, .string x.s, .slice K x.kids.length c, .int .i64 x.ln, .int .i64 x.co] 35) (hB : B b) (hk : SlN d W B K x.kids) : SlN (d + 1) W B (some ⟨b, 0, none⟩) [x] := by
  refine ⟨by simp, fun _ => ⟨b, 0, rfl, hB, fun j y hy => ?_⟩⟩
  match j, hy with
  | 0, hy =>
    obtain rfl : x = y := by simpa using hy
    refine ⟨K, c, fun i hi => ?_, hk⟩
    rw [h.cell]
    match i, hi with
    | 0, _ | 1, _ | 2, _ | 3, _ | 4, _ | 5, _ | 6, _ | 7, _ => rfl
  | j + 1, hy => simp at hy
def NOk (W : World) (e : Ending) (w' : World) : Prop := e = .returned (.bool true) ∧ Below W.heap.size W w'

set_option maxRecDepth 100000 in
set_option maxHeartbeats 4000000 in
theorem nodes_great (f : Fm) (w : World) (hg : greatB f = true) : Calls Tryd.prog 3 #[.agg #[.int .i64 f.op, .int .i64 f.e.k, .int .i64 f.e.n, .string f.e.nm, .int .i64 f.e.vk, .int .i64 f.e.vn, .string f.e.vs, .string f.a, .bool f.v.ent, .int .i64 f.v.vk, .int .i64 f.v.vn, .string f.v.vs, .int .i64 f.v.e.k, .int .i64 f.v.e.n, .string f.v.e.nm, .int .i64 f.v.e.vk, .int .i64 f.v.e.vn, .string f.v.e.vs, .bool f.old.ent, .int .i64 f.old.vk, .int .i64 f.old.vn, .string f.old.vs, .int .i64 f.old.e.k, .int .i64 f.old.e.n, .string f.old.e.nm, .int .i64 f.old.e.vk, .int .i64 f.old.e.vn, .string f.old.e.vs, .int .i64 f.fr, .int .i64 f.til]] w (NOk w) := by
  have HG := Lib.hid (fun W => great_any f W)
  rw [hg] at HG
  clear hg
  obtain ⟨w0, hw0⟩ : ∃ w0, w.alloc (.cells #[.int .i64 f.op, .int .i64 f.e.k, .int .i64 f.e.n, .string f.e.nm, .int .i64 f.e.vk, .int .i64 f.e.vn, .string f.e.vs, .string f.a, .bool f.v.ent, .int .i64 f.v.vk, .int .i64 f.v.vn, .string f.v.vs, .int .i64 f.v.e.k, .int .i64 f.v.e.n, .string f.v.e.nm, .int .i64 f.v.e.vk, .int .i64 f.v.e.vn, .string f.v.e.vs, .bool f.old.ent, .int .i64 f.old.vk, .int .i64 f.old.vn, .string f.old.vs, .int .i64 f.old.e.k, .int .i64 f.old.e.n, .string f.old.e.nm, .int .i64 f.old.e.vk, .int .i64 f.old.e.vn, .string f.old.e.vs, .int .i64 f.fr, .int .i64 f.til] 29) = w0 := ⟨_, rfl⟩
  have HX : Hid (Blk w0 w.heap.size #[.int .i64 f.op, .int .i64 f.e.k, .int .i64 f.e.n, .string f.e.nm, .int .i64 f.e.vk, .int .i64 f.e.vn, .string f.e.vs, .string f.a, .bool f.v.ent, .int .i64 f.v.vk, .int .i64 f.v.vn, .string f.v.vs, .int .i64 f.v.e.k, .int .i64 f.v.e.n, .string f.v.e.nm, .int .i64 f.v.e.vk, .int .i64 f.v.e.vn, .string f.v.e.vs, .bool f.old.ent, .int .i64 f.old.vk, .int .i64 f.old.vn, .string f.old.vs, .int .i64 f.old.e.k, .int .i64 f.old.e.n, .string f.old.e.nm, .int .i64 f.old.e.vk, .int .i64 f.old.e.vn, .string f.old.e.vs, .int .i64 f.fr, .int .i64 f.til] 29) := by rw [← hw0]; exact Blk.new _ _ _
  have HB : Hid (Below w.heap.size w w0) := by rw [← hw0]; exact (Below.refl _ _).alloc (Nat.le_refl _) _
  go_enter Tryd.func3, Tryd.ntmps3
  go_upto_region 1 with (fail)
  try rw [hw0]
  clear hw0
  refine wp_region_lit ?_
  refine wpList_load_row rfl 29 _ rfl w.heap.size rfl 29 _ (0, 0) _ HX.out Tryd.underlying29 rfl sizeF ?_
  go_wp2_with fail
  refine (HG.out _).mono ?_
  rintro e9 w1 ⟨rfl, hb⟩
  have HXn := Lib.hid (HX.out.next hb HX.out.lt)
  have HBn := Lib.hid (HB.out.trans (hb.mono HB.out.size))
  clear hb HX HB
  have HX := HXn
  have HB := HBn
  clear HXn HBn
  go_wp2
  go_ret
  exact ⟨rfl, HB.out⟩
theorem below_drewN {B : Nat} {w w1 : World} (h : Below B w w1) (n : Nat) : Below B w (w1.drewN n) := ⟨h.os, h.tape, h.output, h.size, h.block⟩

set_option maxRecDepth 100000 in
set_option maxHeartbeats 4000000 in
theorem nodes_no (f : Fm) (w : World) (hg : greatB f = false) (hb0 : formB f = false) : Calls Tryd.prog 3 #[.agg #[.int .i64 f.op, .int .i64 f.e.k, .int .i64 f.e.n, .string f.e.nm, .int .i64 f.e.vk, .int .i64 f.e.vn, .string f.e.vs, .string f.a, .bool f.v.ent, .int .i64 f.v.vk, .int .i64 f.v.vn, .string f.v.vs, .int .i64 f.v.e.k, .int .i64 f.v.e.n, .string f.v.e.nm, .int .i64 f.v.e.vk, .int .i64 f.v.e.vn, .string f.v.e.vs, .bool f.old.ent, .int .i64 f.old.vk, .int .i64 f.old.vn, .string f.old.vs, .int .i64 f.old.e.k, .int .i64 f.old.e.n, .string f.old.e.nm, .int .i64 f.old.e.vk, .int .i64 f.old.e.vn, .string f.old.e.vs, .int .i64 f.fr, .int .i64 f.til]] w (NOk w) := by
  have hf := greatB_no hg
  have HG := Lib.hid (fun W => great_any f W)
  rw [hg] at HG
  have hfn : formN f = 90 := by unfold formN; rw [hb0]; rfl
  have HC := Lib.hid (fun W => frmCheck_any f W hf)
  rw [hfn] at HC
  have HM := Lib.hid (fun W => refFrm_any f W hf)
  rw [hb0] at HM
  have HW := Lib.hid (fun W => write_no f W hf hb0)
  have HR := Lib.hid (fun W => refWrite_no f W hf hb0)
  clear hg hb0 hfn hf
  obtain ⟨w0, hw0⟩ : ∃ w0, w.alloc (.cells #[.int .i64 f.op, .int .i64 f.e.k, .int .i64 f.e.n, .string f.e.nm, .int .i64 f.e.vk, .int .i64 f.e.vn, .string f.e.vs, .string f.a, .bool f.v.ent, .int .i64 f.v.vk, .int .i64 f.v.vn, .string f.v.vs, .int .i64 f.v.e.k, .int .i64 f.v.e.n, .string f.v.e.nm, .int .i64 f.v.e.vk, .int .i64 f.v.e.vn, .string f.v.e.vs, .bool f.old.ent, .int .i64 f.old.vk, .int .i64 f.old.vn, .string f.old.vs, .int .i64 f.old.e.k, .int .i64 f.old.e.n, .string f.old.e.nm, .int .i64 f.old.e.vk, .int .i64 f.old.e.vn, .string f.old.e.vs, .int .i64 f.fr, .int .i64 f.til] 29) = w0 := ⟨_, rfl⟩
  have HX : Hid (Blk w0 w.heap.size #[.int .i64 f.op, .int .i64 f.e.k, .int .i64 f.e.n, .string f.e.nm, .int .i64 f.e.vk, .int .i64 f.e.vn, .string f.e.vs, .string f.a, .bool f.v.ent, .int .i64 f.v.vk, .int .i64 f.v.vn, .string f.v.vs, .int .i64 f.v.e.k, .int .i64 f.v.e.n, .string f.v.e.nm, .int .i64 f.v.e.vk, .int .i64 f.v.e.vn, .string f.v.e.vs, .bool f.old.ent, .int .i64 f.old.vk, .int .i64 f.old.vn, .string f.old.vs, .int .i64 f.old.e.k, .int .i64 f.old.e.n, .string f.old.e.nm, .int .i64 f.old.e.vk, .int .i64 f.old.e.vn, .string f.old.e.vs, .int .i64 f.fr, .int .i64 f.til] 29) := by rw [← hw0]; exact Blk.new _ _ _
  have HB : Hid (Below w.heap.size w w0) := by rw [← hw0]; exact (Below.refl _ _).alloc (Nat.le_refl _) _
  go_enter Tryd.func3, Tryd.ntmps3
  go_upto_region 1 with (fail)
  try rw [hw0]
  clear hw0
  refine wp_region_lit ?_
  refine wpList_load_row rfl 29 _ rfl w.heap.size rfl 29 _ (0, 0) _ HX.out Tryd.underlying29 rfl sizeF ?_
  go_wp2_with fail
  refine (HG.out _).mono ?_
  rintro e9 w1 ⟨rfl, hb⟩
  have HXn := Lib.hid (HX.out.next hb HX.out.lt)
  have HBn := Lib.hid (HB.out.trans (hb.mono HB.out.size))
  clear hb HX HB
  have HX := HXn
  have HB := HBn
  clear HXn HBn
  go_upto_region 3 with (fail)
  refine wp_region_lit ?_
  refine wpList_load_row rfl 29 _ rfl w.heap.size rfl 29 _ (0, 0) _ HX.out Tryd.underlying29 rfl sizeF ?_
  go_wp2_with fail
  refine (HC.out _).mono ?_
  rintro e9 w2 ⟨rfl, hb⟩
  have HXn := Lib.hid (HX.out.next hb HX.out.lt)
  have HBn := Lib.hid (HB.out.trans (hb.mono HB.out.size))
  clear hb HX HB
  have HX := HXn
  have HB := HBn
  clear HXn HBn
  go_upto_region 4 with (fail)
  refine wp_region_lit ?_
  refine wpList_load_row rfl 29 _ rfl w.heap.size rfl 29 _ (0, 0) _ HX.out Tryd.underlying29 rfl sizeF ?_
  go_wp2_with fail
  refine (HW.out _).mono ?_
  rintro e9 w3 ⟨rfl, hb⟩
  have HXn := Lib.hid (HX.out.next hb HX.out.lt)
  have HBn := Lib.hid (HB.out.trans (hb.mono HB.out.size))
  clear hb HX HB
  have HX := HXn
  have HB := HBn
  clear HXn HBn
  have HY : Hid (Blk (w3.alloc (.cells #[.int .i64 0, .int .i64 0, .int .i64 0, .string ⟨#[]⟩, .string ⟨#[]⟩, .slice none 0 0, .int .i64 0, .int .i64 0] 35)) w3.heap.size #[.int .i64 0, .int .i64 0, .int .i64 0, .string ⟨#[]⟩, .string ⟨#[]⟩, .slice none 0 0, .int .i64 0, .int .i64 0] 35) := Blk.new _ _ _
  have hb := (Below.refl w3.heap.size w3).alloc (Nat.le_refl _) (.cells #[.int .i64 0, .int .i64 0, .int .i64 0, .string ⟨#[]⟩, .string ⟨#[]⟩, .slice none 0 0, .int .i64 0, .int .i64 0] 35)
  have HXn := Lib.hid (HX.out.next hb HX.out.lt)
  have HBn := Lib.hid (HB.out.trans (hb.mono HB.out.size))
  clear hb HX HB
  have HX := HXn
  have HB := HBn
  clear HXn HBn
  go_upto_region 5 with (fail)
  refine wp_region_lit ?_
  refine wpList_load_row rfl 29 _ rfl w.heap.size rfl 29 _ (0, 0) _ HX.out Tryd.underlying29 rfl sizeF ?_
  go_wp2_with fail
  refine (HR.out _).mono ?_
  rintro e9 w4 ⟨rfl, hb⟩
  have HYa := Lib.hid (HY.out.next hb HY.out.lt)
  have hz4 := hb.size
  have hz3 := HY.out.lt
  have HXn := Lib.hid (HX.out.next hb HX.out.lt)
  have HBn := Lib.hid (HB.out.trans (hb.mono HB.out.size))
  clear hb HX HB
  have HX := HXn
  have HB := HBn
  clear HXn HBn
  have HZ : Hid (Blk (w4.alloc (.cells #[.int .i64 0, .int .i64 0, .int .i64 0, .string ⟨#[]⟩, .string ⟨#[]⟩, .slice none 0 0, .int .i64 0, .int .i64 0] 35)) w4.heap.size #[.int .i64 0, .int .i64 0, .int .i64 0, .string ⟨#[]⟩, .string ⟨#[]⟩, .slice none 0 0, .int .i64 0, .int .i64 0] 35) := Blk.new _ _ _
  have hb := (Below.refl w4.heap.size w4).alloc (Nat.le_refl _) (.cells #[.int .i64 0, .int .i64 0, .int .i64 0, .string ⟨#[]⟩, .string ⟨#[]⟩, .slice none 0 0, .int .i64 0, .int .i64 0] 35)
  have HYb := Lib.hid (HYa.out.next hb HYa.out.lt)
  have HXn := Lib.hid (HX.out.next hb HX.out.lt)
  have HBn := Lib.hid (HB.out.trans (hb.mono HB.out.size))
  clear hb HX HB
  have HX := HXn
  have HB := HBn
  clear HXn HBn
  go_upto_region 6 with (fail)
  refine wp_region_lit ?_
  refine wpList_load_row rfl 29 _ rfl w.heap.size rfl 29 _ (0, 0) _ HX.out Tryd.underlying29 rfl sizeF ?_
  go_wp2_with fail
  refine (HM.out _).mono ?_
  rintro e9 w5 ⟨rfl, hb⟩
  have HYc := Lib.hid (HYb.out.next hb HYb.out.lt)
  have HZa := Lib.hid (HZ.out.next hb HZ.out.lt)
  have hz5 := hb.size
  have hz6 := HZ.out.lt
  have HXn := Lib.hid (HX.out.next hb HX.out.lt)
  have HBn := Lib.hid (HB.out.trans (hb.mono HB.out.size))
  clear hb HX HB
  have HX := HXn
  have HB := HBn
  clear HXn HBn
  have y0 : w5.cell? ⟨w3.heap.size, 0, none⟩ = some (.int .i64 0) := HYc.out.cell 0
  have y1 : w5.cell? ⟨w3.heap.size, 1, none⟩ = some (.int .i64 0) := HYc.out.cell 1
  have y2 : w5.cell? ⟨w3.heap.size, 2, none⟩ = some (.int .i64 0) := HYc.out.cell 2
  have y3 : w5.cell? ⟨w3.heap.size, 3, none⟩ = some (.string ⟨#[]⟩) := HYc.out.cell 3
  have y4 : w5.cell? ⟨w3.heap.size, 4, none⟩ = some (.string ⟨#[]⟩) := HYc.out.cell 4
  have y5 : w5.cell? ⟨w3.heap.size, 5, none⟩ = some (.slice none 0 0) := HYc.out.cell 5
  have y6 : w5.cell? ⟨w3.heap.size, 6, none⟩ = some (.int .i64 0) := HYc.out.cell 6
  have y7 : w5.cell? ⟨w3.heap.size, 7, none⟩ = some (.int .i64 0) := HYc.out.cell 7
  have HZb := Lib.hid (HZa.out.next ((Below.refl w5.heap.size w5).alloc (Nat.le_refl _) (.cells #[.int .i64 0, .int .i64 0, .int .i64 0, .string ⟨#[]⟩, .string ⟨#[]⟩, .slice none 0 0, .int .i64 0, .int .i64 0] 35)) HZa.out.lt)
  have z0 : (w5.alloc (.cells #[.int .i64 0, .int .i64 0, .int .i64 0, .string ⟨#[]⟩, .string ⟨#[]⟩, .slice none 0 0, .int .i64 0, .int .i64 0] 35)).cell? ⟨w4.heap.size, 0, none⟩ = some (.int .i64 0) := HZb.out.cell 0
  have z1 : (w5.alloc (.cells #[.int .i64 0, .int .i64 0, .int .i64 0, .string ⟨#[]⟩, .string ⟨#[]⟩, .slice none 0 0, .int .i64 0, .int .i64 0] 35)).cell? ⟨w4.heap.size, 1, none⟩ = some (.int .i64 0) := HZb.out.cell 1
  have z2 : (w5.alloc (.cells #[.int .i64 0, .int .i64 0, .int .i64 0, .string ⟨#[]⟩, .string ⟨#[]⟩, .slice none 0 0, .int .i64 0, .int .i64 0] 35)).cell? ⟨w4.heap.size, 2, none⟩ = some (.int .i64 0) := HZb.out.cell 2
  have z3 : (w5.alloc (.cells #[.int .i64 0, .int .i64 0, .int .i64 0, .string ⟨#[]⟩, .string ⟨#[]⟩, .slice none 0 0, .int .i64 0, .int .i64 0] 35)).cell? ⟨w4.heap.size, 3, none⟩ = some (.string ⟨#[]⟩) := HZb.out.cell 3
  have z4 : (w5.alloc (.cells #[.int .i64 0, .int .i64 0, .int .i64 0, .string ⟨#[]⟩, .string ⟨#[]⟩, .slice none 0 0, .int .i64 0, .int .i64 0] 35)).cell? ⟨w4.heap.size, 4, none⟩ = some (.string ⟨#[]⟩) := HZb.out.cell 4
  have z5 : (w5.alloc (.cells #[.int .i64 0, .int .i64 0, .int .i64 0, .string ⟨#[]⟩, .string ⟨#[]⟩, .slice none 0 0, .int .i64 0, .int .i64 0] 35)).cell? ⟨w4.heap.size, 5, none⟩ = some (.slice none 0 0) := HZb.out.cell 5
  have z6 : (w5.alloc (.cells #[.int .i64 0, .int .i64 0, .int .i64 0, .string ⟨#[]⟩, .string ⟨#[]⟩, .slice none 0 0, .int .i64 0, .int .i64 0] 35)).cell? ⟨w4.heap.size, 6, none⟩ = some (.int .i64 0) := HZb.out.cell 6
  have z7 : (w5.alloc (.cells #[.int .i64 0, .int .i64 0, .int .i64 0, .string ⟨#[]⟩, .string ⟨#[]⟩, .slice none 0 0, .int .i64 0, .int .i64 0] 35)).cell? ⟨w4.heap.size, 7, none⟩ = some (.int .i64 0) := HZb.out.cell 7
  have HP : Hid (Blk ((w5.alloc (.cells #[.int .i64 0, .int .i64 0, .int .i64 0, .string ⟨#[]⟩, .string ⟨#[]⟩, .slice none 0 0, .int .i64 0, .int .i64 0] 35)).alloc (.cells #[.int .i64 0, .int .i64 0, .int .i64 0, .string ⟨#[]⟩, .string ⟨#[]⟩, .slice none 0 0, .int .i64 0, .int .i64 0] 35)) w5.heap.size #[.int .i64 0, .int .i64 0, .int .i64 0, .string ⟨#[]⟩, .string ⟨#[]⟩, .slice none 0 0, .int .i64 0, .int .i64 0] 35) := Blk.new2 _ _ _ _ _
  have HQ : Hid (Blk ((w5.alloc (.cells #[.int .i64 0, .int .i64 0, .int .i64 0, .string ⟨#[]⟩, .string ⟨#[]⟩, .slice none 0 0, .int .i64 0, .int .i64 0] 35)).alloc (.cells #[.int .i64 0, .int .i64 0, .int .i64 0, .string ⟨#[]⟩, .string ⟨#[]⟩, .slice none 0 0, .int .i64 0, .int .i64 0] 35)) (w5.heap.size + 1) #[.int .i64 0, .int .i64 0, .int .i64 0, .string ⟨#[]⟩, .string ⟨#[]⟩, .slice none 0 0, .int .i64 0, .int .i64 0] 35) := Blk.new2' _ _ _ _ _
  have HBB : Hid (Below w5.heap.size w5 ((w5.alloc (.cells #[.int .i64 0, .int .i64 0, .int .i64 0, .string ⟨#[]⟩, .string ⟨#[]⟩, .slice none 0 0, .int .i64 0, .int .i64 0] 35)).alloc (.cells #[.int .i64 0, .int .i64 0, .int .i64 0, .string ⟨#[]⟩, .string ⟨#[]⟩, .slice none 0 0, .int .i64 0, .int .i64 0] 35))) := ((Below.refl _ _).alloc (Nat.le_refl _) _).alloc (by simp) _
  have HPL : Hid (SlN 3 ((w5.alloc (.cells #[.int .i64 0, .int .i64 0, .int .i64 0, .string ⟨#[]⟩, .string ⟨#[]⟩, .slice none 0 0, .int .i64 0, .int .i64 0] 35)).alloc (.cells #[.int .i64 0, .int .i64 0, .int .i64 0, .string ⟨#[]⟩, .string ⟨#[]⟩, .slice none 0 0, .int .i64 0, .int .i64 0] 35)) (fun _ => True) (some ⟨w5.heap.size, 0, none⟩) [zN]) := SlN.one (x := zN) HP.out trivial (SlN.nil _ _ _ _)
  have HQL : Hid (SlN 3 ((w5.alloc (.cells #[.int .i64 0, .int .i64 0, .int .i64 0, .string ⟨#[]⟩, .string ⟨#[]⟩, .slice none 0 0, .int .i64 0, .int .i64 0] 35)).alloc (.cells #[.int .i64 0, .int .i64 0, .int .i64 0, .string ⟨#[]⟩, .string ⟨#[]⟩, .slice none 0 0, .int .i64 0, .int .i64 0] 35)) (fun _ => True) (some ⟨w5.heap.size + 1, 0, none⟩) [zN]) := SlN.one (x := zN) HQ.out trivial (SlN.nil _ _ _ _)
  have HPC := Lib.hid (placed_any 3 (some ⟨w5.heap.size, 0, none⟩) (some ⟨w5.heap.size + 1, 0, none⟩) 1 1 [zN] ((w5.alloc (.cells #[.int .i64 0, .int .i64 0, .int .i64 0, .string ⟨#[]⟩, .string ⟨#[]⟩, .slice none 0 0, .int .i64 0, .int .i64 0] 35)).alloc (.cells #[.int .i64 0, .int .i64 0, .int .i64 0, .string ⟨#[]⟩, .string ⟨#[]⟩, .slice none 0 0, .int .i64 0, .int .i64 0] 35)) _ _ HPL.out HQL.out)
  clear HP HQ HPL HQL
  go_wp2_with fail
  refine HPC.out.mono ?_
  rintro e9 w6 ⟨rfl, nq, rfl⟩
  go_wp2
  go_ret
  exact ⟨rfl, below_drewN (HB.out.trans (HBB.out.mono HB.out.size)) nq⟩

set_option maxRecDepth 100000 in
set_option maxHeartbeats 4000000 in
theorem nodes_yes (f : Fm) (w : World) (hg : greatB f = false) (hb0 : formB f = true) (hn : NamesAt w) (hfr : minT ≤ f.fr) (hto : f.til ≤ maxT) : Calls Tryd.prog 3 #[.agg #[.int .i64 f.op, .int .i64 f.e.k, .int .i64 f.e.n, .string f.e.nm, .int .i64 f.e.vk, .int .i64 f.e.vn, .string f.e.vs, .string f.a, .bool f.v.ent, .int .i64 f.v.vk, .int .i64 f.v.vn, .string f.v.vs, .int .i64 f.v.e.k, .int .i64 f.v.e.n, .string f.v.e.nm, .int .i64 f.v.e.vk, .int .i64 f.v.e.vn, .string f.v.e.vs, .bool f.old.ent, .int .i64 f.old.vk, .int .i64 f.old.vn, .string f.old.vs, .int .i64 f.old.e.k, .int .i64 f.old.e.n, .string f.old.e.nm, .int .i64 f.old.e.vk, .int .i64 f.old.e.vn, .string f.old.e.vs, .int .i64 f.fr, .int .i64 f.til]] w (NOk w) := by
  have hf := greatB_no hg
  have HG := Lib.hid (fun W => great_any f W)
  rw [hg] at HG
  have hfn : formN f = 0 := by unfold formN; rw [hb0]; rfl
  have HC := Lib.hid (fun W => frmCheck_any f W hf)
  rw [hfn] at HC
  have HM := Lib.hid (fun W => refFrm_any f W hf)
  rw [hb0] at HM
  have HW := Lib.hid (fun W (h : NamesAt W) => write_any f W hf hb0 h hfr hto)
  have HR := Lib.hid (fun W => refWrite_yes f W hf hb0)
  have HN := Lib.hid hn
  clear hn hfr hto
  clear hg hb0 hfn hf
  obtain ⟨w0, hw0⟩ : ∃ w0, w.alloc (.cells #[.int .i64 f.op, .int .i64 f.e.k, .int .i64 f.e.n, .string f.e.nm, .int .i64 f.e.vk, .int .i64 f.e.vn, .string f.e.vs, .string f.a, .bool f.v.ent, .int .i64 f.v.vk, .int .i64 f.v.vn, .string f.v.vs, .int .i64 f.v.e.k, .int .i64 f.v.e.n, .string f.v.e.nm, .int .i64 f.v.e.vk, .int .i64 f.v.e.vn, .string f.v.e.vs, .bool f.old.ent, .int .i64 f.old.vk, .int .i64 f.old.vn, .string f.old.vs, .int .i64 f.old.e.k, .int .i64 f.old.e.n, .string f.old.e.nm, .int .i64 f.old.e.vk, .int .i64 f.old.e.vn, .string f.old.e.vs, .int .i64 f.fr, .int .i64 f.til] 29) = w0 := ⟨_, rfl⟩
  have HX : Hid (Blk w0 w.heap.size #[.int .i64 f.op, .int .i64 f.e.k, .int .i64 f.e.n, .string f.e.nm, .int .i64 f.e.vk, .int .i64 f.e.vn, .string f.e.vs, .string f.a, .bool f.v.ent, .int .i64 f.v.vk, .int .i64 f.v.vn, .string f.v.vs, .int .i64 f.v.e.k, .int .i64 f.v.e.n, .string f.v.e.nm, .int .i64 f.v.e.vk, .int .i64 f.v.e.vn, .string f.v.e.vs, .bool f.old.ent, .int .i64 f.old.vk, .int .i64 f.old.vn, .string f.old.vs, .int .i64 f.old.e.k, .int .i64 f.old.e.n, .string f.old.e.nm, .int .i64 f.old.e.vk, .int .i64 f.old.e.vn, .string f.old.e.vs, .int .i64 f.fr, .int .i64 f.til] 29) := by rw [← hw0]; exact Blk.new _ _ _
  have HB : Hid (Below w.heap.size w w0) := by rw [← hw0]; exact (Below.refl _ _).alloc (Nat.le_refl _) _
  go_enter Tryd.func3, Tryd.ntmps3
  go_upto_region 1 with (fail)
  try rw [hw0]
  clear hw0
  refine wp_region_lit ?_
  refine wpList_load_row rfl 29 _ rfl w.heap.size rfl 29 _ (0, 0) _ HX.out Tryd.underlying29 rfl sizeF ?_
  go_wp2_with fail
  refine (HG.out _).mono ?_
  rintro e9 w1 ⟨rfl, hb⟩
  have HXn := Lib.hid (HX.out.next hb HX.out.lt)
  have HBn := Lib.hid (HB.out.trans (hb.mono HB.out.size))
  clear hb HX HB
  have HX := HXn
  have HB := HBn
  clear HXn HBn
  go_upto_region 3 with (fail)
  refine wp_region_lit ?_
  refine wpList_load_row rfl 29 _ rfl w.heap.size rfl 29 _ (0, 0) _ HX.out Tryd.underlying29 rfl sizeF ?_
  go_wp2_with fail
  refine (HC.out _).mono ?_
  rintro e9 w2 ⟨rfl, hb⟩
  have HXn := Lib.hid (HX.out.next hb HX.out.lt)
  have HBn := Lib.hid (HB.out.trans (hb.mono HB.out.size))
  clear hb HX HB
  have HX := HXn
  have HB := HBn
  clear HXn HBn
  go_upto_region 4 with (fail)
  refine wp_region_lit ?_
  refine wpList_load_row rfl 29 _ rfl w.heap.size rfl 29 _ (0, 0) _ HX.out Tryd.underlying29 rfl sizeF ?_
  go_wp2_with fail
  refine (HW.out _ (HN.out.next HB.out (Nat.le_refl _))).mono ?_
  rintro e9 w3 ⟨K1, c1, rfl, hsl, hb⟩
  have HS1 := Lib.hid hsl
  clear hsl
  have HXn := Lib.hid (HX.out.next hb HX.out.lt)
  have HBn := Lib.hid (HB.out.trans (hb.mono HB.out.size))
  clear hb HX HB
  have HX := HXn
  have HB := HBn
  clear HXn HBn
  have HY : Hid (Blk (w3.alloc (.cells #[.int .i64 3, .int .i64 0, .int .i64 0, .string ⟨#[]⟩, .string ⟨#[]⟩, .slice K1 (kidL f).length c1, .int .i64 0, .int .i64 0] 35)) w3.heap.size #[.int .i64 3, .int .i64 0, .int .i64 0, .string ⟨#[]⟩, .string ⟨#[]⟩, .slice K1 (kidL f).length c1, .int .i64 0, .int .i64 0] 35) := Blk.new _ _ _
  have hb := (Below.refl w3.heap.size w3).alloc (Nat.le_refl _) (.cells #[.int .i64 3, .int .i64 0, .int .i64 0, .string ⟨#[]⟩, .string ⟨#[]⟩, .slice K1 (kidL f).length c1, .int .i64 0, .int .i64 0] 35)
  have HS1a := Lib.hid (HS1.out.next hb (fun b h => h))
  have HXn := Lib.hid (HX.out.next hb HX.out.lt)
  have HBn := Lib.hid (HB.out.trans (hb.mono HB.out.size))
  clear hb HX HB
  have HX := HXn
  have HB := HBn
  clear HXn HBn
  go_upto_region 5 with (fail)
  refine wp_region_lit ?_
  refine wpList_load_row rfl 29 _ rfl w.heap.size rfl 29 _ (0, 0) _ HX.out Tryd.underlying29 rfl sizeF ?_
  go_wp2_with fail
  refine (HR.out _).mono ?_
  rintro e9 w4 ⟨K2, c2, rfl, hsl, hb⟩
  have HS2 := Lib.hid hsl
  clear hsl
  have HS1b := Lib.hid (HS1a.out.next hb (fun b h => by have := HY.out.lt; omega))
  have HYa := Lib.hid (HY.out.next hb HY.out.lt)
  have hz4 := hb.size
  have hz3 := HY.out.lt
  have HXn := Lib.hid (HX.out.next hb HX.out.lt)
  have HBn := Lib.hid (HB.out.trans (hb.mono HB.out.size))
  clear hb HX HB
  have HX := HXn
  have HB := HBn
  clear HXn HBn
  have HZ : Hid (Blk (w4.alloc (.cells #[.int .i64 3, .int .i64 0, .int .i64 0, .string ⟨#[]⟩, .string ⟨#[]⟩, .slice K2 (kidL f).length c2, .int .i64 0, .int .i64 0] 35)) w4.heap.size #[.int .i64 3, .int .i64 0, .int .i64 0, .string ⟨#[]⟩, .string ⟨#[]⟩, .slice K2 (kidL f).length c2, .int .i64 0, .int .i64 0] 35) := Blk.new _ _ _
  have hb := (Below.refl w4.heap.size w4).alloc (Nat.le_refl _) (.cells #[.int .i64 3, .int .i64 0, .int .i64 0, .string ⟨#[]⟩, .string ⟨#[]⟩, .slice K2 (kidL f).length c2, .int .i64 0, .int .i64 0] 35)
  have HYb := Lib.hid (HYa.out.next hb HYa.out.lt)
  have HS2a := Lib.hid (HS2.out.next hb (fun b h => h))
  have HS1c := Lib.hid (HS1b.out.next hb (fun b h => by omega))
  have HXn := Lib.hid (HX.out.next hb HX.out.lt)
  have HBn := Lib.hid (HB.out.trans (hb.mono HB.out.size))
  clear hb HX HB
  have HX := HXn
  have HB := HBn
  clear HXn HBn
  go_upto_region 6 with (fail)
  refine wp_region_lit ?_
  refine wpList_load_row rfl 29 _ rfl w.heap.size rfl 29 _ (0, 0) _ HX.out Tryd.underlying29 rfl sizeF ?_
  go_wp2_with fail
  refine (HM.out _).mono ?_
  rintro e9 w5 ⟨rfl, hb⟩
  have HYc := Lib.hid (HYb.out.next hb HYb.out.lt)
  have HZa := Lib.hid (HZ.out.next hb HZ.out.lt)
  have hz5 := hb.size
  have hz6 := HZ.out.lt
  have HS2b := Lib.hid (HS2a.out.next hb (fun b h => by omega))
  have HS1d := Lib.hid (HS1c.out.next hb (fun b h => by omega))
  have HXn := Lib.hid (HX.out.next hb HX.out.lt)
  have HBn := Lib.hid (HB.out.trans (hb.mono HB.out.size))
  clear hb HX HB
  have HX := HXn
  have HB := HBn
  clear HXn HBn
  have y0 : w5.cell? ⟨w3.heap.size, 0, none⟩ = some (.int .i64 3) := HYc.out.cell 0
  have y1 : w5.cell? ⟨w3.heap.size, 1, none⟩ = some (.int .i64 0) := HYc.out.cell 1
  have y2 : w5.cell? ⟨w3.heap.size, 2, none⟩ = some (.int .i64 0) := HYc.out.cell 2
  have y3 : w5.cell? ⟨w3.heap.size, 3, none⟩ = some (.string ⟨#[]⟩) := HYc.out.cell 3
  have y4 : w5.cell? ⟨w3.heap.size, 4, none⟩ = some (.string ⟨#[]⟩) := HYc.out.cell 4
  have y5 : w5.cell? ⟨w3.heap.size, 5, none⟩ = some (.slice K1 (kidL f).length c1) := HYc.out.cell 5
  have y6 : w5.cell? ⟨w3.heap.size, 6, none⟩ = some (.int .i64 0) := HYc.out.cell 6
  have y7 : w5.cell? ⟨w3.heap.size, 7, none⟩ = some (.int .i64 0) := HYc.out.cell 7
  have HZb := Lib.hid (HZa.out.next ((Below.refl w5.heap.size w5).alloc (Nat.le_refl _) (.cells #[.int .i64 3, .int .i64 0, .int .i64 0, .string ⟨#[]⟩, .string ⟨#[]⟩, .slice K1 (kidL f).length c1, .int .i64 0, .int .i64 0] 35)) HZa.out.lt)
  have z0 : (w5.alloc (.cells #[.int .i64 3, .int .i64 0, .int .i64 0, .string ⟨#[]⟩, .string ⟨#[]⟩, .slice K1 (kidL f).length c1, .int .i64 0, .int .i64 0] 35)).cell? ⟨w4.heap.size, 0, none⟩ = some (.int .i64 3) := HZb.out.cell 0
  have z1 : (w5.alloc (.cells #[.int .i64 3, .int .i64 0, .int .i64 0, .string ⟨#[]⟩, .string ⟨#[]⟩, .slice K1 (kidL f).length c1, .int .i64 0, .int .i64 0] 35)).cell? ⟨w4.heap.size, 1, none⟩ = some (.int .i64 0) := HZb.out.cell 1
  have z2 : (w5.alloc (.cells #[.int .i64 3, .int .i64 0, .int .i64 0, .string ⟨#[]⟩, .string ⟨#[]⟩, .slice K1 (kidL f).length c1, .int .i64 0, .int .i64 0] 35)).cell? ⟨w4.heap.size, 2, none⟩ = some (.int .i64 0) := HZb.out.cell 2
  have z3 : (w5.alloc (.cells #[.int .i64 3, .int .i64 0, .int .i64 0, .string ⟨#[]⟩, .string ⟨#[]⟩, .slice K1 (kidL f).length c1, .int .i64 0, .int .i64 0] 35)).cell? ⟨w4.heap.size, 3, none⟩ = some (.string ⟨#[]⟩) := HZb.out.cell 3
  have z4 : (w5.alloc (.cells #[.int .i64 3, .int .i64 0, .int .i64 0, .string ⟨#[]⟩, .string ⟨#[]⟩, .slice K1 (kidL f).length c1, .int .i64 0, .int .i64 0] 35)).cell? ⟨w4.heap.size, 4, none⟩ = some (.string ⟨#[]⟩) := HZb.out.cell 4
  have z5 : (w5.alloc (.cells #[.int .i64 3, .int .i64 0, .int .i64 0, .string ⟨#[]⟩, .string ⟨#[]⟩, .slice K1 (kidL f).length c1, .int .i64 0, .int .i64 0] 35)).cell? ⟨w4.heap.size, 5, none⟩ = some (.slice K2 (kidL f).length c2) := HZb.out.cell 5
  have z6 : (w5.alloc (.cells #[.int .i64 3, .int .i64 0, .int .i64 0, .string ⟨#[]⟩, .string ⟨#[]⟩, .slice K1 (kidL f).length c1, .int .i64 0, .int .i64 0] 35)).cell? ⟨w4.heap.size, 6, none⟩ = some (.int .i64 0) := HZb.out.cell 6
  have z7 : (w5.alloc (.cells #[.int .i64 3, .int .i64 0, .int .i64 0, .string ⟨#[]⟩, .string ⟨#[]⟩, .slice K1 (kidL f).length c1, .int .i64 0, .int .i64 0] 35)).cell? ⟨w4.heap.size, 7, none⟩ = some (.int .i64 0) := HZb.out.cell 7
  have HP : Hid (Blk ((w5.alloc (.cells #[.int .i64 3, .int .i64 0, .int .i64 0, .string ⟨#[]⟩, .string ⟨#[]⟩, .slice K1 (kidL f).length c1, .int .i64 0, .int .i64 0] 35)).alloc (.cells #[.int .i64 3, .int .i64 0, .int .i64 0, .string ⟨#[]⟩, .string ⟨#[]⟩, .slice K2 (kidL f).length c2, .int .i64 0, .int .i64 0] 35)) w5.heap.size #[.int .i64 3, .int .i64 0, .int .i64 0, .string ⟨#[]⟩, .string ⟨#[]⟩, .slice K1 (kidL f).length c1, .int .i64 0, .int .i64 0] 35) := Blk.new2 _ _ _ _ _
  have HQ : Hid (Blk ((w5.alloc (.cells #[.int .i64 3, .int .i64 0, .int .i64 0, .string ⟨#[]⟩, .string ⟨#[]⟩, .slice K1 (kidL f).length c1, .int .i64 0, .int .i64 0] 35)).alloc (.cells #[.int .i64 3, .int .i64 0, .int .i64 0, .string ⟨#[]⟩, .string ⟨#[]⟩, .slice K2 (kidL f).length c2, .int .i64 0, .int .i64 0] 35)) (w5.heap.size + 1) #[.int .i64 3, .int .i64 0, .int .i64 0, .string ⟨#[]⟩, .string ⟨#[]⟩, .slice K2 (kidL f).length c2, .int .i64 0, .int .i64 0] 35) := Blk.new2' _ _ _ _ _
  have HBB : Hid (Below w5.heap.size w5 ((w5.alloc (.cells #[.int .i64 3, .int .i64 0, .int .i64 0, .string ⟨#[]⟩, .string ⟨#[]⟩, .slice K1 (kidL f).length c1, .int .i64 0, .int .i64 0] 35)).alloc (.cells #[.int .i64 3, .int .i64 0, .int .i64 0, .string ⟨#[]⟩, .string ⟨#[]⟩, .slice K2 (kidL f).length c2, .int .i64 0, .int .i64 0] 35))) := ((Below.refl _ _).alloc (Nat.le_refl _) _).alloc (by simp) _
  have HPL : Hid (SlN 3 ((w5.alloc (.cells #[.int .i64 3, .int .i64 0, .int .i64 0, .string ⟨#[]⟩, .string ⟨#[]⟩, .slice K1 (kidL f).length c1, .int .i64 0, .int .i64 0] 35)).alloc (.cells #[.int .i64 3, .int .i64 0, .int .i64 0, .string ⟨#[]⟩, .string ⟨#[]⟩, .slice K2 (kidL f).length c2, .int .i64 0, .int .i64 0] 35)) (fun _ => True) (some ⟨w5.heap.size, 0, none⟩) [nodF f]) := SlN.one (x := nodF f) HP.out trivial ((HS1d.out.next HBB.out (fun b h => by omega)).mono fun _ _ => trivial)
  have HQL : Hid (SlN 3 ((w5.alloc (.cells #[.int .i64 3, .int .i64 0, .int .i64 0, .string ⟨#[]⟩, .string ⟨#[]⟩, .slice K1 (kidL f).length c1, .int .i64 0, .int .i64 0] 35)).alloc (.cells #[.int .i64 3, .int .i64 0, .int .i64 0, .string ⟨#[]⟩, .string ⟨#[]⟩, .slice K2 (kidL f).length c2, .int .i64 0, .int .i64 0] 35)) (fun _ => True) (some ⟨w5.heap.size + 1, 0, none⟩) [nodF f]) := SlN.one (x := nodF f) HQ.out trivial ((HS2b.out.next HBB.out (fun b h => by omega)).mono fun _ _ => trivial)
  have HPC := Lib.hid (placed_any 3 (some ⟨w5.heap.size, 0, none⟩) (some ⟨w5.heap.size + 1, 0, none⟩) 1 1 [nodF f] ((w5.alloc (.cells #[.int .i64 3, .int .i64 0, .int .i64 0, .string ⟨#[]⟩, .string ⟨#[]⟩, .slice K1 (kidL f).length c1, .int .i64 0, .int .i64 0] 35)).alloc (.cells #[.int .i64 3, .int .i64 0, .int .i64 0, .string ⟨#[]⟩, .string ⟨#[]⟩, .slice K2 (kidL f).length c2, .int .i64 0, .int .i64 0] 35)) _ _ HPL.out HQL.out)
  clear HP HQ HPL HQL
  go_wp2_with fail
  refine HPC.out.mono ?_
  rintro e9 w6 ⟨rfl, nq, rfl⟩
  go_wp2
  go_ret
  exact ⟨rfl, below_drewN (HB.out.trans (HBB.out.mono HB.out.size)) nq⟩
/-- THE LAW ClaimNodes, at a run. -/
theorem nodes_any (f : Fm) (w : World) (hn : NamesAt w) (hfr : minT ≤ f.fr) (hto : f.til ≤ maxT) : Calls Tryd.prog 3 #[.agg #[.int .i64 f.op, .int .i64 f.e.k, .int .i64 f.e.n, .string f.e.nm, .int .i64 f.e.vk, .int .i64 f.e.vn, .string f.e.vs, .string f.a, .bool f.v.ent, .int .i64 f.v.vk, .int .i64 f.v.vn, .string f.v.vs, .int .i64 f.v.e.k, .int .i64 f.v.e.n, .string f.v.e.nm, .int .i64 f.v.e.vk, .int .i64 f.v.e.vn, .string f.v.e.vs, .bool f.old.ent, .int .i64 f.old.vk, .int .i64 f.old.vn, .string f.old.vs, .int .i64 f.old.e.k, .int .i64 f.old.e.n, .string f.old.e.nm, .int .i64 f.old.e.vk, .int .i64 f.old.e.vn, .string f.old.e.vs, .int .i64 f.fr, .int .i64 f.til]] w (NOk w) := by
  cases hg : greatB f
  · cases hb : formB f
    · exact nodes_no f w hg hb
    · exact nodes_yes f w hg hb hn hfr hto
  · exact nodes_great f w hg

end Go.Proofs.YtdjdlfndmeegnaaDoor
