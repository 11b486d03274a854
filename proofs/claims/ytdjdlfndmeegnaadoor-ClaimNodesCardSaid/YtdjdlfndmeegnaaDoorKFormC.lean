/-
  CONTRACTS: mayBe, Check.
-/
import Derived.Test.YtdjdlfndmeegnaaDoorKForm
import Derived.Laws.Rows
namespace Go.Proofs.YtdjdlfndmeegnaaDoor
open Go.RowKit

theorem sizeF : (Tryd.prog.info? 29).map (·.size) = some 30 := by kernel_rfl
theorem loadFrm {W : World} {b : Nat} {cs : Array Value} (h : Blk W b cs 29) (hn : cs.size = 30) : (Instr.loadAt 29 (.pointer (some ⟨b, 0, none⟩))).run Tryd.prog W = .ok (.agg cs) W := by
  have hi : (Tryd.prog.info? 29).map (·.size) = some cs.size := by rw [hn]; kernel_rfl
  simp only [Instr.loadAt, Instr.sureAddr, Sem.run_bind, Sem.run_pure, Result.andThen_ok, run_loadVar_row W b _ 29 cs (0, 0) _ h Tryd.underlying29 rfl hi]

set_option maxRecDepth 100000 in
set_option maxHeartbeats 1000000 in
theorem frmMay_3 (e : En) (a : ByteArray) (v old : Tm) (fr til : Int) (w : World) (h : ¬ til ≤ fr) (hb : entB e = true) (he : EnS e) :
    Calls Tryd.prog 14 #[.agg #[.int .i64 3, .int .i64 e.k, .int .i64 e.n, .string e.nm, .int .i64 e.vk, .int .i64 e.vn, .string e.vs, .string a, .bool v.ent, .int .i64 v.vk, .int .i64 v.vn, .string v.vs, .int .i64 v.e.k, .int .i64 v.e.n, .string v.e.nm, .int .i64 v.e.vk, .int .i64 v.e.vn, .string v.e.vs, .bool old.ent, .int .i64 old.vk, .int .i64 old.vn, .string old.vs, .int .i64 old.e.k, .int .i64 old.e.n, .string old.e.nm, .int .i64 old.e.vk, .int .i64 old.e.vn, .string old.e.vs, .int .i64 fr, .int .i64 til]] w fun e' w' => e' = .returned (.bool (formB ⟨3, e, a, v, old, fr, til⟩)) ∧ Below w.heap.size w w' := by
  rw [frm_3 a v old h hb]
  have HV := Lib.hid (fun W => entMay_any e W he)
  rw [hb] at HV
  have hq := fun W => eqlF ⟨3, e, a, v, old, fr, til⟩ ⟨3, e, eB, zT, zT, fr, til⟩ W
  obtain ⟨q, hq0⟩ : ∃ q, sameF ⟨3, e, a, v, old, fr, til⟩ ⟨3, e, eB, zT, zT, fr, til⟩ = q := ⟨_, rfl⟩
  rw [hq0] at hq ⊢
  simp only [zT, zE, eB] at hq
  clear hq0 hb
  have HXs : Hid (Blk (w.alloc (.cells #[.int .i64 3, .int .i64 e.k, .int .i64 e.n, .string e.nm, .int .i64 e.vk, .int .i64 e.vn, .string e.vs, .string a, .bool v.ent, .int .i64 v.vk, .int .i64 v.vn, .string v.vs, .int .i64 v.e.k, .int .i64 v.e.n, .string v.e.nm, .int .i64 v.e.vk, .int .i64 v.e.vn, .string v.e.vs, .bool old.ent, .int .i64 old.vk, .int .i64 old.vn, .string old.vs, .int .i64 old.e.k, .int .i64 old.e.n, .string old.e.nm, .int .i64 old.e.vk, .int .i64 old.e.vn, .string old.e.vs, .int .i64 fr, .int .i64 til] 29)) w.heap.size #[.int .i64 3, .int .i64 e.k, .int .i64 e.n, .string e.nm, .int .i64 e.vk, .int .i64 e.vn, .string e.vs, .string a, .bool v.ent, .int .i64 v.vk, .int .i64 v.vn, .string v.vs, .int .i64 v.e.k, .int .i64 v.e.n, .string v.e.nm, .int .i64 v.e.vk, .int .i64 v.e.vn, .string v.e.vs, .bool old.ent, .int .i64 old.vk, .int .i64 old.vn, .string old.vs, .int .i64 old.e.k, .int .i64 old.e.n, .string old.e.nm, .int .i64 old.e.vk, .int .i64 old.e.vn, .string old.e.vs, .int .i64 fr, .int .i64 til] 29) := Blk.new _ _ _
  have HBs : Hid (Below w.heap.size w (w.alloc (.cells #[.int .i64 3, .int .i64 e.k, .int .i64 e.n, .string e.nm, .int .i64 e.vk, .int .i64 e.vn, .string e.vs, .string a, .bool v.ent, .int .i64 v.vk, .int .i64 v.vn, .string v.vs, .int .i64 v.e.k, .int .i64 v.e.n, .string v.e.nm, .int .i64 v.e.vk, .int .i64 v.e.vn, .string v.e.vs, .bool old.ent, .int .i64 old.vk, .int .i64 old.vn, .string old.vs, .int .i64 old.e.k, .int .i64 old.e.n, .string old.e.nm, .int .i64 old.e.vk, .int .i64 old.e.vn, .string old.e.vs, .int .i64 fr, .int .i64 til] 29))) := (Below.refl _ _).alloc (Nat.le_refl _) _
  go_enter Tryd.func14, Tryd.ntmps14
  go_wp2_with fail
  refine (HV.out _).mono ?_
  rintro e w2 ⟨rfl, hb⟩
  have HXw2 := Lib.hid (HXs.out.next hb HXs.out.lt)
  have HBw2 := Lib.hid (HBs.out.trans (hb.mono HBs.out.size))
  clear hb
  have c0 : w2.cell? ⟨w.heap.size, 0, none⟩ = some (.int .i64 3) := HXw2.out.cell 0
  have c1 : w2.cell? ⟨w.heap.size, 1, none⟩ = some (.int .i64 e.k) := HXw2.out.cell 1
  have c2 : w2.cell? ⟨w.heap.size, 2, none⟩ = some (.int .i64 e.n) := HXw2.out.cell 2
  have c3 : w2.cell? ⟨w.heap.size, 3, none⟩ = some (.string e.nm) := HXw2.out.cell 3
  have c4 : w2.cell? ⟨w.heap.size, 4, none⟩ = some (.int .i64 e.vk) := HXw2.out.cell 4
  have c5 : w2.cell? ⟨w.heap.size, 5, none⟩ = some (.int .i64 e.vn) := HXw2.out.cell 5
  have c6 : w2.cell? ⟨w.heap.size, 6, none⟩ = some (.string e.vs) := HXw2.out.cell 6
  have c28 : w2.cell? ⟨w.heap.size, 28, none⟩ = some (.int .i64 fr) := HXw2.out.cell 28
  have c29 : w2.cell? ⟨w.heap.size, 29, none⟩ = some (.int .i64 til) := HXw2.out.cell 29
  go_upto_region 8 with (fail)
  refine wp_region_lit ?_
  refine wpList_load_row rfl 29 _ rfl w.heap.size rfl 29 _ (0, 0) _ HXw2.out Tryd.underlying29 rfl sizeF ?_
  go_wp2
  go_ret
  exact ⟨rfl, HBw2.out⟩

set_option maxRecDepth 100000 in
set_option maxHeartbeats 1000000 in
theorem frmMay_x (op : Int) (e : En) (a : ByteArray) (v old : Tm) (fr til : Int) (w : World) (h : ¬ til ≤ fr) (hb : entB e = true) (he : EnS e) (h1 : ¬ op = 1) (h2 : ¬ op = 2) (h3 : ¬ op = 3) (h4 : ¬ op = 4) :
    Calls Tryd.prog 14 #[.agg #[.int .i64 op, .int .i64 e.k, .int .i64 e.n, .string e.nm, .int .i64 e.vk, .int .i64 e.vn, .string e.vs, .string a, .bool v.ent, .int .i64 v.vk, .int .i64 v.vn, .string v.vs, .int .i64 v.e.k, .int .i64 v.e.n, .string v.e.nm, .int .i64 v.e.vk, .int .i64 v.e.vn, .string v.e.vs, .bool old.ent, .int .i64 old.vk, .int .i64 old.vn, .string old.vs, .int .i64 old.e.k, .int .i64 old.e.n, .string old.e.nm, .int .i64 old.e.vk, .int .i64 old.e.vn, .string old.e.vs, .int .i64 fr, .int .i64 til]] w fun e' w' => e' = .returned (.bool (formB ⟨op, e, a, v, old, fr, til⟩)) ∧ Below w.heap.size w w' := by
  rw [frm_x a v old h hb h1 h2 h3 h4]
  have HV := Lib.hid (fun W => entMay_any e W he)
  rw [hb] at HV
  clear hb
  have HXs : Hid (Blk (w.alloc (.cells #[.int .i64 op, .int .i64 e.k, .int .i64 e.n, .string e.nm, .int .i64 e.vk, .int .i64 e.vn, .string e.vs, .string a, .bool v.ent, .int .i64 v.vk, .int .i64 v.vn, .string v.vs, .int .i64 v.e.k, .int .i64 v.e.n, .string v.e.nm, .int .i64 v.e.vk, .int .i64 v.e.vn, .string v.e.vs, .bool old.ent, .int .i64 old.vk, .int .i64 old.vn, .string old.vs, .int .i64 old.e.k, .int .i64 old.e.n, .string old.e.nm, .int .i64 old.e.vk, .int .i64 old.e.vn, .string old.e.vs, .int .i64 fr, .int .i64 til] 29)) w.heap.size #[.int .i64 op, .int .i64 e.k, .int .i64 e.n, .string e.nm, .int .i64 e.vk, .int .i64 e.vn, .string e.vs, .string a, .bool v.ent, .int .i64 v.vk, .int .i64 v.vn, .string v.vs, .int .i64 v.e.k, .int .i64 v.e.n, .string v.e.nm, .int .i64 v.e.vk, .int .i64 v.e.vn, .string v.e.vs, .bool old.ent, .int .i64 old.vk, .int .i64 old.vn, .string old.vs, .int .i64 old.e.k, .int .i64 old.e.n, .string old.e.nm, .int .i64 old.e.vk, .int .i64 old.e.vn, .string old.e.vs, .int .i64 fr, .int .i64 til] 29) := Blk.new _ _ _
  have HBs : Hid (Below w.heap.size w (w.alloc (.cells #[.int .i64 op, .int .i64 e.k, .int .i64 e.n, .string e.nm, .int .i64 e.vk, .int .i64 e.vn, .string e.vs, .string a, .bool v.ent, .int .i64 v.vk, .int .i64 v.vn, .string v.vs, .int .i64 v.e.k, .int .i64 v.e.n, .string v.e.nm, .int .i64 v.e.vk, .int .i64 v.e.vn, .string v.e.vs, .bool old.ent, .int .i64 old.vk, .int .i64 old.vn, .string old.vs, .int .i64 old.e.k, .int .i64 old.e.n, .string old.e.nm, .int .i64 old.e.vk, .int .i64 old.e.vn, .string old.e.vs, .int .i64 fr, .int .i64 til] 29))) := (Below.refl _ _).alloc (Nat.le_refl _) _
  go_enter Tryd.func14, Tryd.ntmps14
  go_wp2_with fail
  refine (HV.out _).mono ?_
  rintro e w2 ⟨rfl, hb⟩
  have HXw2 := Lib.hid (HXs.out.next hb HXs.out.lt)
  have HBw2 := Lib.hid (HBs.out.trans (hb.mono HBs.out.size))
  clear hb
  have c0 : w2.cell? ⟨w.heap.size, 0, none⟩ = some (.int .i64 op) := HXw2.out.cell 0
  have c1 : w2.cell? ⟨w.heap.size, 1, none⟩ = some (.int .i64 e.k) := HXw2.out.cell 1
  have c2 : w2.cell? ⟨w.heap.size, 2, none⟩ = some (.int .i64 e.n) := HXw2.out.cell 2
  have c3 : w2.cell? ⟨w.heap.size, 3, none⟩ = some (.string e.nm) := HXw2.out.cell 3
  have c4 : w2.cell? ⟨w.heap.size, 4, none⟩ = some (.int .i64 e.vk) := HXw2.out.cell 4
  have c5 : w2.cell? ⟨w.heap.size, 5, none⟩ = some (.int .i64 e.vn) := HXw2.out.cell 5
  have c6 : w2.cell? ⟨w.heap.size, 6, none⟩ = some (.string e.vs) := HXw2.out.cell 6
  have c7 : w2.cell? ⟨w.heap.size, 7, none⟩ = some (.string a) := HXw2.out.cell 7
  have c8 : w2.cell? ⟨w.heap.size, 8, none⟩ = some (.bool v.ent) := HXw2.out.cell 8
  have c9 : w2.cell? ⟨w.heap.size, 9, none⟩ = some (.int .i64 v.vk) := HXw2.out.cell 9
  have c10 : w2.cell? ⟨w.heap.size, 10, none⟩ = some (.int .i64 v.vn) := HXw2.out.cell 10
  have c11 : w2.cell? ⟨w.heap.size, 11, none⟩ = some (.string v.vs) := HXw2.out.cell 11
  have c12 : w2.cell? ⟨w.heap.size, 12, none⟩ = some (.int .i64 v.e.k) := HXw2.out.cell 12
  have c13 : w2.cell? ⟨w.heap.size, 13, none⟩ = some (.int .i64 v.e.n) := HXw2.out.cell 13
  have c14 : w2.cell? ⟨w.heap.size, 14, none⟩ = some (.string v.e.nm) := HXw2.out.cell 14
  have c15 : w2.cell? ⟨w.heap.size, 15, none⟩ = some (.int .i64 v.e.vk) := HXw2.out.cell 15
  have c16 : w2.cell? ⟨w.heap.size, 16, none⟩ = some (.int .i64 v.e.vn) := HXw2.out.cell 16
  have c17 : w2.cell? ⟨w.heap.size, 17, none⟩ = some (.string v.e.vs) := HXw2.out.cell 17
  have c18 : w2.cell? ⟨w.heap.size, 18, none⟩ = some (.bool old.ent) := HXw2.out.cell 18
  have c19 : w2.cell? ⟨w.heap.size, 19, none⟩ = some (.int .i64 old.vk) := HXw2.out.cell 19
  have c20 : w2.cell? ⟨w.heap.size, 20, none⟩ = some (.int .i64 old.vn) := HXw2.out.cell 20
  have c21 : w2.cell? ⟨w.heap.size, 21, none⟩ = some (.string old.vs) := HXw2.out.cell 21
  have c22 : w2.cell? ⟨w.heap.size, 22, none⟩ = some (.int .i64 old.e.k) := HXw2.out.cell 22
  have c23 : w2.cell? ⟨w.heap.size, 23, none⟩ = some (.int .i64 old.e.n) := HXw2.out.cell 23
  have c24 : w2.cell? ⟨w.heap.size, 24, none⟩ = some (.string old.e.nm) := HXw2.out.cell 24
  have c25 : w2.cell? ⟨w.heap.size, 25, none⟩ = some (.int .i64 old.e.vk) := HXw2.out.cell 25
  have c26 : w2.cell? ⟨w.heap.size, 26, none⟩ = some (.int .i64 old.e.vn) := HXw2.out.cell 26
  have c27 : w2.cell? ⟨w.heap.size, 27, none⟩ = some (.string old.e.vs) := HXw2.out.cell 27
  have c28 : w2.cell? ⟨w.heap.size, 28, none⟩ = some (.int .i64 fr) := HXw2.out.cell 28
  have c29 : w2.cell? ⟨w.heap.size, 29, none⟩ = some (.int .i64 til) := HXw2.out.cell 29
  go_wp2
  go_ret
  exact ⟨rfl, HBw2.out⟩
/-- CONTRACT: mayBe. -/
theorem frmMay_any (f : Fm) (w : World) (hf : FmS f) :
    Calls Tryd.prog 14 #[.agg #[.int .i64 f.op, .int .i64 f.e.k, .int .i64 f.e.n, .string f.e.nm, .int .i64 f.e.vk, .int .i64 f.e.vn, .string f.e.vs, .string f.a, .bool f.v.ent, .int .i64 f.v.vk, .int .i64 f.v.vn, .string f.v.vs, .int .i64 f.v.e.k, .int .i64 f.v.e.n, .string f.v.e.nm, .int .i64 f.v.e.vk, .int .i64 f.v.e.vn, .string f.v.e.vs, .bool f.old.ent, .int .i64 f.old.vk, .int .i64 f.old.vn, .string f.old.vs, .int .i64 f.old.e.k, .int .i64 f.old.e.n, .string f.old.e.nm, .int .i64 f.old.e.vk, .int .i64 f.old.e.vn, .string f.old.e.vs, .int .i64 f.fr, .int .i64 f.til]] w fun e w' => e = .returned (.bool (formB f)) ∧ Below w.heap.size w w' := by
  obtain ⟨op, e, a, v, old, fr, til⟩ := f
  obtain ⟨ha, he, hv, ho⟩ := hf
  by_cases h : til ≤ fr
  · exact frmMay_late op e a v old fr til w h
  cases hb : entB e
  · exact frmMay_ent op e a v old fr til w h hb he
  by_cases h1 : op = 1
  · subst h1; exact frmMay_1 e a v old fr til w h hb he ha hv
  by_cases h2 : op = 2
  · subst h2; exact frmMay_2 e a v old fr til w h hb he ha hv
  by_cases h3 : op = 3
  · subst h3; exact frmMay_3 e a v old fr til w h hb he
  by_cases h4 : op = 4
  · subst h4; exact frmMay_4 e a v old fr til w h hb he ha hv ho
  exact frmMay_x op e a v old fr til w h hb he h1 h2 h3 h4

def formN (f : Fm) : Int := if formB f = true then 0 else 90

set_option maxRecDepth 100000 in
set_option maxHeartbeats 1000000 in
/-- CONTRACT: Check. -/
theorem frmCheck_any (f : Fm) (w : World) (hf : FmS f) :
    Calls Tryd.prog 6 #[.agg #[.int .i64 f.op, .int .i64 f.e.k, .int .i64 f.e.n, .string f.e.nm, .int .i64 f.e.vk, .int .i64 f.e.vn, .string f.e.vs, .string f.a, .bool f.v.ent, .int .i64 f.v.vk, .int .i64 f.v.vn, .string f.v.vs, .int .i64 f.v.e.k, .int .i64 f.v.e.n, .string f.v.e.nm, .int .i64 f.v.e.vk, .int .i64 f.v.e.vn, .string f.v.e.vs, .bool f.old.ent, .int .i64 f.old.vk, .int .i64 f.old.vn, .string f.old.vs, .int .i64 f.old.e.k, .int .i64 f.old.e.n, .string f.old.e.nm, .int .i64 f.old.e.vk, .int .i64 f.old.e.vn, .string f.old.e.vs, .int .i64 f.fr, .int .i64 f.til]] w fun e w' => e = .returned (.int .i64 (formN f)) ∧ Below w.heap.size w w' := by
  have HV := Lib.hid (fun W => frmMay_any f W hf)
  unfold formN
  obtain ⟨m, hm⟩ : ∃ m, formB f = m := ⟨_, rfl⟩
  rw [hm] at HV ⊢
  clear hm
  obtain ⟨w0, hw0⟩ : ∃ w0, w.alloc (.cells #[.int .i64 f.op, .int .i64 f.e.k, .int .i64 f.e.n, .string f.e.nm, .int .i64 f.e.vk, .int .i64 f.e.vn, .string f.e.vs, .string f.a, .bool f.v.ent, .int .i64 f.v.vk, .int .i64 f.v.vn, .string f.v.vs, .int .i64 f.v.e.k, .int .i64 f.v.e.n, .string f.v.e.nm, .int .i64 f.v.e.vk, .int .i64 f.v.e.vn, .string f.v.e.vs, .bool f.old.ent, .int .i64 f.old.vk, .int .i64 f.old.vn, .string f.old.vs, .int .i64 f.old.e.k, .int .i64 f.old.e.n, .string f.old.e.nm, .int .i64 f.old.e.vk, .int .i64 f.old.e.vn, .string f.old.e.vs, .int .i64 f.fr, .int .i64 f.til] 29) = w0 := ⟨_, rfl⟩
  have HXs : Hid (Blk w0 w.heap.size #[.int .i64 f.op, .int .i64 f.e.k, .int .i64 f.e.n, .string f.e.nm, .int .i64 f.e.vk, .int .i64 f.e.vn, .string f.e.vs, .string f.a, .bool f.v.ent, .int .i64 f.v.vk, .int .i64 f.v.vn, .string f.v.vs, .int .i64 f.v.e.k, .int .i64 f.v.e.n, .string f.v.e.nm, .int .i64 f.v.e.vk, .int .i64 f.v.e.vn, .string f.v.e.vs, .bool f.old.ent, .int .i64 f.old.vk, .int .i64 f.old.vn, .string f.old.vs, .int .i64 f.old.e.k, .int .i64 f.old.e.n, .string f.old.e.nm, .int .i64 f.old.e.vk, .int .i64 f.old.e.vn, .string f.old.e.vs, .int .i64 f.fr, .int .i64 f.til] 29) := by rw [← hw0]; exact Blk.new _ _ _
  have HBs : Hid (Below w.heap.size w w0) := by rw [← hw0]; exact (Below.refl _ _).alloc (Nat.le_refl _) _
  cases m
  all_goals
    go_enter Tryd.func6, Tryd.ntmps6
    go_upto_region 1 with (fail)
    try rw [hw0]
    clear hw0
    refine wp_region_lit ?_
    refine wpList_load_row rfl 29 _ rfl w.heap.size rfl 29 _ (0, 0) _ HXs.out Tryd.underlying29 rfl sizeF ?_
    go_wp2_with fail
    refine (HV.out _).mono ?_
    rintro e w2 ⟨rfl, hb⟩
    have HXw2 := Lib.hid (HXs.out.next hb HXs.out.lt)
    have HBw2 := Lib.hid (HBs.out.trans (hb.mono HBs.out.size))
    clear hb
    go_wp2
    go_ret
    exact ⟨rfl, HBw2.out⟩

end Go.Proofs.YtdjdlfndmeegnaaDoor
