/-
  CONTRACT: the document's May.
-/
import Derived.Test.YtdjdlfndmeegnaaDoorKRefT
import Derived.Test.YtdjdlfndmeegnaaDoorKForm
namespace Go.Proofs.YtdjdlfndmeegnaaDoor
open Go.RowKit

theorem frm_ent' (op : Int) {e : En} (a : ByteArray) (v old : Tm) (fr til : Int) (he : entB e = false) : formB ⟨op, e, a, v, old, fr, til⟩ = false := by
  unfold formB
  by_cases h : til ≤ fr
  · rw [if_pos h]
  · rw [if_neg h, if_pos he]
theorem frm_3' {e : En} (a : ByteArray) (v old : Tm) {fr til : Int} (h : ¬ til ≤ fr) (he : entB e = true) : formB ⟨3, e, a, v, old, fr, til⟩ = (sameT old zT && (decide (a.toList = []) && sameT v zT)) := by
  rw [frm_3 a v old h he]
  unfold sameF
  rw [eB_list, sameE_refl]
  simp only [beq_self_eq_true, Bool.true_and, Bool.and_true]
  rw [show (a.toList == []) = decide (a.toList = []) from by cases a.toList <;> rfl]
  cases sameT old zT <;> cases decide (a.toList = []) <;> cases sameT v zT <;> rfl

set_option maxRecDepth 100000 in
set_option maxHeartbeats 1000000 in
theorem refFrm_ent (op : Int) (e : En) (a : ByteArray) (v old : Tm) (fr til : Int) (w : World) (hb : entB e = false) (he : EnS e) :
    Calls Tryd.prog 9 #[.agg #[.int .i64 op, .int .i64 e.k, .int .i64 e.n, .string e.nm, .int .i64 e.vk, .int .i64 e.vn, .string e.vs, .string a, .bool v.ent, .int .i64 v.vk, .int .i64 v.vn, .string v.vs, .int .i64 v.e.k, .int .i64 v.e.n, .string v.e.nm, .int .i64 v.e.vk, .int .i64 v.e.vn, .string v.e.vs, .bool old.ent, .int .i64 old.vk, .int .i64 old.vn, .string old.vs, .int .i64 old.e.k, .int .i64 old.e.n, .string old.e.nm, .int .i64 old.e.vk, .int .i64 old.e.vn, .string old.e.vs, .int .i64 fr, .int .i64 til]] w fun e' w' => e' = .returned (.bool (formB ⟨op, e, a, v, old, fr, til⟩)) ∧ Below w.heap.size w w' := by
  rw [frm_ent' op a v old fr til hb]
  have HV := Lib.hid (fun W => refEnt_any e W he)
  rw [hb] at HV
  have HXs : Hid (Blk (w.alloc (.cells #[.int .i64 op, .int .i64 e.k, .int .i64 e.n, .string e.nm, .int .i64 e.vk, .int .i64 e.vn, .string e.vs, .string a, .bool v.ent, .int .i64 v.vk, .int .i64 v.vn, .string v.vs, .int .i64 v.e.k, .int .i64 v.e.n, .string v.e.nm, .int .i64 v.e.vk, .int .i64 v.e.vn, .string v.e.vs, .bool old.ent, .int .i64 old.vk, .int .i64 old.vn, .string old.vs, .int .i64 old.e.k, .int .i64 old.e.n, .string old.e.nm, .int .i64 old.e.vk, .int .i64 old.e.vn, .string old.e.vs, .int .i64 fr, .int .i64 til] 29)) w.heap.size #[.int .i64 op, .int .i64 e.k, .int .i64 e.n, .string e.nm, .int .i64 e.vk, .int .i64 e.vn, .string e.vs, .string a, .bool v.ent, .int .i64 v.vk, .int .i64 v.vn, .string v.vs, .int .i64 v.e.k, .int .i64 v.e.n, .string v.e.nm, .int .i64 v.e.vk, .int .i64 v.e.vn, .string v.e.vs, .bool old.ent, .int .i64 old.vk, .int .i64 old.vn, .string old.vs, .int .i64 old.e.k, .int .i64 old.e.n, .string old.e.nm, .int .i64 old.e.vk, .int .i64 old.e.vn, .string old.e.vs, .int .i64 fr, .int .i64 til] 29) := Blk.new _ _ _
  have HBs : Hid (Below w.heap.size w (w.alloc (.cells #[.int .i64 op, .int .i64 e.k, .int .i64 e.n, .string e.nm, .int .i64 e.vk, .int .i64 e.vn, .string e.vs, .string a, .bool v.ent, .int .i64 v.vk, .int .i64 v.vn, .string v.vs, .int .i64 v.e.k, .int .i64 v.e.n, .string v.e.nm, .int .i64 v.e.vk, .int .i64 v.e.vn, .string v.e.vs, .bool old.ent, .int .i64 old.vk, .int .i64 old.vn, .string old.vs, .int .i64 old.e.k, .int .i64 old.e.n, .string old.e.nm, .int .i64 old.e.vk, .int .i64 old.e.vn, .string old.e.vs, .int .i64 fr, .int .i64 til] 29))) := (Below.refl _ _).alloc (Nat.le_refl _) _
  go_enter Tryd.func9, Tryd.ntmps9
  go_wp2_with fail
  refine (HV.out _).mono ?_
  rintro e w2 ⟨rfl, hb⟩
  have HXw2 := Lib.hid (HXs.out.next hb HXs.out.lt)
  have HBw2 := Lib.hid (HBs.out.trans (hb.mono HBs.out.size))
  clear hb
  go_wp2
  go_ret
  exact ⟨rfl, HBw2.out⟩

set_option maxRecDepth 100000 in
set_option maxHeartbeats 1000000 in
theorem refFrm_late (op : Int) (e : En) (a : ByteArray) (v old : Tm) (fr til : Int) (w : World) (hb : entB e = true) (he : EnS e) (h : til ≤ fr) :
    Calls Tryd.prog 9 #[.agg #[.int .i64 op, .int .i64 e.k, .int .i64 e.n, .string e.nm, .int .i64 e.vk, .int .i64 e.vn, .string e.vs, .string a, .bool v.ent, .int .i64 v.vk, .int .i64 v.vn, .string v.vs, .int .i64 v.e.k, .int .i64 v.e.n, .string v.e.nm, .int .i64 v.e.vk, .int .i64 v.e.vn, .string v.e.vs, .bool old.ent, .int .i64 old.vk, .int .i64 old.vn, .string old.vs, .int .i64 old.e.k, .int .i64 old.e.n, .string old.e.nm, .int .i64 old.e.vk, .int .i64 old.e.vn, .string old.e.vs, .int .i64 fr, .int .i64 til]] w fun e' w' => e' = .returned (.bool (formB ⟨op, e, a, v, old, fr, til⟩)) ∧ Below w.heap.size w w' := by
  rw [frm_late e a v old h]
  have HV := Lib.hid (fun W => refEnt_any e W he)
  rw [hb] at HV
  clear hb
  have HXs : Hid (Blk (w.alloc (.cells #[.int .i64 op, .int .i64 e.k, .int .i64 e.n, .string e.nm, .int .i64 e.vk, .int .i64 e.vn, .string e.vs, .string a, .bool v.ent, .int .i64 v.vk, .int .i64 v.vn, .string v.vs, .int .i64 v.e.k, .int .i64 v.e.n, .string v.e.nm, .int .i64 v.e.vk, .int .i64 v.e.vn, .string v.e.vs, .bool old.ent, .int .i64 old.vk, .int .i64 old.vn, .string old.vs, .int .i64 old.e.k, .int .i64 old.e.n, .string old.e.nm, .int .i64 old.e.vk, .int .i64 old.e.vn, .string old.e.vs, .int .i64 fr, .int .i64 til] 29)) w.heap.size #[.int .i64 op, .int .i64 e.k, .int .i64 e.n, .string e.nm, .int .i64 e.vk, .int .i64 e.vn, .string e.vs, .string a, .bool v.ent, .int .i64 v.vk, .int .i64 v.vn, .string v.vs, .int .i64 v.e.k, .int .i64 v.e.n, .string v.e.nm, .int .i64 v.e.vk, .int .i64 v.e.vn, .string v.e.vs, .bool old.ent, .int .i64 old.vk, .int .i64 old.vn, .string old.vs, .int .i64 old.e.k, .int .i64 old.e.n, .string old.e.nm, .int .i64 old.e.vk, .int .i64 old.e.vn, .string old.e.vs, .int .i64 fr, .int .i64 til] 29) := Blk.new _ _ _
  have HBs : Hid (Below w.heap.size w (w.alloc (.cells #[.int .i64 op, .int .i64 e.k, .int .i64 e.n, .string e.nm, .int .i64 e.vk, .int .i64 e.vn, .string e.vs, .string a, .bool v.ent, .int .i64 v.vk, .int .i64 v.vn, .string v.vs, .int .i64 v.e.k, .int .i64 v.e.n, .string v.e.nm, .int .i64 v.e.vk, .int .i64 v.e.vn, .string v.e.vs, .bool old.ent, .int .i64 old.vk, .int .i64 old.vn, .string old.vs, .int .i64 old.e.k, .int .i64 old.e.n, .string old.e.nm, .int .i64 old.e.vk, .int .i64 old.e.vn, .string old.e.vs, .int .i64 fr, .int .i64 til] 29))) := (Below.refl _ _).alloc (Nat.le_refl _) _
  go_enter Tryd.func9, Tryd.ntmps9
  go_wp2_with fail
  refine (HV.out _).mono ?_
  rintro e w2 ⟨rfl, hb⟩
  have HXw2 := Lib.hid (HXs.out.next hb HXs.out.lt)
  have HBw2 := Lib.hid (HBs.out.trans (hb.mono HBs.out.size))
  clear hb
  have c0 : w2.cell? ⟨w.heap.size, 0, none⟩ = some (.int .i64 op) := HXw2.out.cell 0
  have c28 : w2.cell? ⟨w.heap.size, 28, none⟩ = some (.int .i64 fr) := HXw2.out.cell 28
  have c29 : w2.cell? ⟨w.heap.size, 29, none⟩ = some (.int .i64 til) := HXw2.out.cell 29
  go_wp2
  go_ret
  exact ⟨rfl, HBw2.out⟩

set_option maxRecDepth 100000 in
set_option maxHeartbeats 1000000 in
theorem refFrm_low (op : Int) (e : En) (a : ByteArray) (v old : Tm) (fr til : Int) (w : World) (hb : entB e = true) (he : EnS e) (h : ¬ til ≤ fr) (h1 : op < 1) :
    Calls Tryd.prog 9 #[.agg #[.int .i64 op, .int .i64 e.k, .int .i64 e.n, .string e.nm, .int .i64 e.vk, .int .i64 e.vn, .string e.vs, .string a, .bool v.ent, .int .i64 v.vk, .int .i64 v.vn, .string v.vs, .int .i64 v.e.k, .int .i64 v.e.n, .string v.e.nm, .int .i64 v.e.vk, .int .i64 v.e.vn, .string v.e.vs, .bool old.ent, .int .i64 old.vk, .int .i64 old.vn, .string old.vs, .int .i64 old.e.k, .int .i64 old.e.n, .string old.e.nm, .int .i64 old.e.vk, .int .i64 old.e.vn, .string old.e.vs, .int .i64 fr, .int .i64 til]] w fun e' w' => e' = .returned (.bool (formB ⟨op, e, a, v, old, fr, til⟩)) ∧ Below w.heap.size w w' := by
  rw [frm_x a v old h hb (by omega) (by omega) (by omega) (by omega)]
  have HV := Lib.hid (fun W => refEnt_any e W he)
  rw [hb] at HV
  clear hb
  have HXs : Hid (Blk (w.alloc (.cells #[.int .i64 op, .int .i64 e.k, .int .i64 e.n, .string e.nm, .int .i64 e.vk, .int .i64 e.vn, .string e.vs, .string a, .bool v.ent, .int .i64 v.vk, .int .i64 v.vn, .string v.vs, .int .i64 v.e.k, .int .i64 v.e.n, .string v.e.nm, .int .i64 v.e.vk, .int .i64 v.e.vn, .string v.e.vs, .bool old.ent, .int .i64 old.vk, .int .i64 old.vn, .string old.vs, .int .i64 old.e.k, .int .i64 old.e.n, .string old.e.nm, .int .i64 old.e.vk, .int .i64 old.e.vn, .string old.e.vs, .int .i64 fr, .int .i64 til] 29)) w.heap.size #[.int .i64 op, .int .i64 e.k, .int .i64 e.n, .string e.nm, .int .i64 e.vk, .int .i64 e.vn, .string e.vs, .string a, .bool v.ent, .int .i64 v.vk, .int .i64 v.vn, .string v.vs, .int .i64 v.e.k, .int .i64 v.e.n, .string v.e.nm, .int .i64 v.e.vk, .int .i64 v.e.vn, .string v.e.vs, .bool old.ent, .int .i64 old.vk, .int .i64 old.vn, .string old.vs, .int .i64 old.e.k, .int .i64 old.e.n, .string old.e.nm, .int .i64 old.e.vk, .int .i64 old.e.vn, .string old.e.vs, .int .i64 fr, .int .i64 til] 29) := Blk.new _ _ _
  have HBs : Hid (Below w.heap.size w (w.alloc (.cells #[.int .i64 op, .int .i64 e.k, .int .i64 e.n, .string e.nm, .int .i64 e.vk, .int .i64 e.vn, .string e.vs, .string a, .bool v.ent, .int .i64 v.vk, .int .i64 v.vn, .string v.vs, .int .i64 v.e.k, .int .i64 v.e.n, .string v.e.nm, .int .i64 v.e.vk, .int .i64 v.e.vn, .string v.e.vs, .bool old.ent, .int .i64 old.vk, .int .i64 old.vn, .string old.vs, .int .i64 old.e.k, .int .i64 old.e.n, .string old.e.nm, .int .i64 old.e.vk, .int .i64 old.e.vn, .string old.e.vs, .int .i64 fr, .int .i64 til] 29))) := (Below.refl _ _).alloc (Nat.le_refl _) _
  go_enter Tryd.func9, Tryd.ntmps9
  go_wp2_with fail
  refine (HV.out _).mono ?_
  rintro e w2 ⟨rfl, hb⟩
  have HXw2 := Lib.hid (HXs.out.next hb HXs.out.lt)
  have HBw2 := Lib.hid (HBs.out.trans (hb.mono HBs.out.size))
  clear hb
  have c0 : w2.cell? ⟨w.heap.size, 0, none⟩ = some (.int .i64 op) := HXw2.out.cell 0
  have c28 : w2.cell? ⟨w.heap.size, 28, none⟩ = some (.int .i64 fr) := HXw2.out.cell 28
  have c29 : w2.cell? ⟨w.heap.size, 29, none⟩ = some (.int .i64 til) := HXw2.out.cell 29
  go_wp2
  go_ret
  exact ⟨rfl, HBw2.out⟩

set_option maxRecDepth 100000 in
set_option maxHeartbeats 1000000 in
theorem refFrm_high (op : Int) (e : En) (a : ByteArray) (v old : Tm) (fr til : Int) (w : World) (hb : entB e = true) (he : EnS e) (h : ¬ til ≤ fr) (h0 : ¬ op < 1) (h1 : 4 < op) :
    Calls Tryd.prog 9 #[.agg #[.int .i64 op, .int .i64 e.k, .int .i64 e.n, .string e.nm, .int .i64 e.vk, .int .i64 e.vn, .string e.vs, .string a, .bool v.ent, .int .i64 v.vk, .int .i64 v.vn, .string v.vs, .int .i64 v.e.k, .int .i64 v.e.n, .string v.e.nm, .int .i64 v.e.vk, .int .i64 v.e.vn, .string v.e.vs, .bool old.ent, .int .i64 old.vk, .int .i64 old.vn, .string old.vs, .int .i64 old.e.k, .int .i64 old.e.n, .string old.e.nm, .int .i64 old.e.vk, .int .i64 old.e.vn, .string old.e.vs, .int .i64 fr, .int .i64 til]] w fun e' w' => e' = .returned (.bool (formB ⟨op, e, a, v, old, fr, til⟩)) ∧ Below w.heap.size w w' := by
  rw [frm_x a v old h hb (by omega) (by omega) (by omega) (by omega)]
  have HV := Lib.hid (fun W => refEnt_any e W he)
  rw [hb] at HV
  clear hb
  have HXs : Hid (Blk (w.alloc (.cells #[.int .i64 op, .int .i64 e.k, .int .i64 e.n, .string e.nm, .int .i64 e.vk, .int .i64 e.vn, .string e.vs, .string a, .bool v.ent, .int .i64 v.vk, .int .i64 v.vn, .string v.vs, .int .i64 v.e.k, .int .i64 v.e.n, .string v.e.nm, .int .i64 v.e.vk, .int .i64 v.e.vn, .string v.e.vs, .bool old.ent, .int .i64 old.vk, .int .i64 old.vn, .string old.vs, .int .i64 old.e.k, .int .i64 old.e.n, .string old.e.nm, .int .i64 old.e.vk, .int .i64 old.e.vn, .string old.e.vs, .int .i64 fr, .int .i64 til] 29)) w.heap.size #[.int .i64 op, .int .i64 e.k, .int .i64 e.n, .string e.nm, .int .i64 e.vk, .int .i64 e.vn, .string e.vs, .string a, .bool v.ent, .int .i64 v.vk, .int .i64 v.vn, .string v.vs, .int .i64 v.e.k, .int .i64 v.e.n, .string v.e.nm, .int .i64 v.e.vk, .int .i64 v.e.vn, .string v.e.vs, .bool old.ent, .int .i64 old.vk, .int .i64 old.vn, .string old.vs, .int .i64 old.e.k, .int .i64 old.e.n, .string old.e.nm, .int .i64 old.e.vk, .int .i64 old.e.vn, .string old.e.vs, .int .i64 fr, .int .i64 til] 29) := Blk.new _ _ _
  have HBs : Hid (Below w.heap.size w (w.alloc (.cells #[.int .i64 op, .int .i64 e.k, .int .i64 e.n, .string e.nm, .int .i64 e.vk, .int .i64 e.vn, .string e.vs, .string a, .bool v.ent, .int .i64 v.vk, .int .i64 v.vn, .string v.vs, .int .i64 v.e.k, .int .i64 v.e.n, .string v.e.nm, .int .i64 v.e.vk, .int .i64 v.e.vn, .string v.e.vs, .bool old.ent, .int .i64 old.vk, .int .i64 old.vn, .string old.vs, .int .i64 old.e.k, .int .i64 old.e.n, .string old.e.nm, .int .i64 old.e.vk, .int .i64 old.e.vn, .string old.e.vs, .int .i64 fr, .int .i64 til] 29))) := (Below.refl _ _).alloc (Nat.le_refl _) _
  go_enter Tryd.func9, Tryd.ntmps9
  go_wp2_with fail
  refine (HV.out _).mono ?_
  rintro e w2 ⟨rfl, hb⟩
  have HXw2 := Lib.hid (HXs.out.next hb HXs.out.lt)
  have HBw2 := Lib.hid (HBs.out.trans (hb.mono HBs.out.size))
  clear hb
  have c0 : w2.cell? ⟨w.heap.size, 0, none⟩ = some (.int .i64 op) := HXw2.out.cell 0
  have c28 : w2.cell? ⟨w.heap.size, 28, none⟩ = some (.int .i64 fr) := HXw2.out.cell 28
  have c29 : w2.cell? ⟨w.heap.size, 29, none⟩ = some (.int .i64 til) := HXw2.out.cell 29
  go_wp2
  go_ret
  exact ⟨rfl, HBw2.out⟩

set_option maxRecDepth 100000 in
set_option maxHeartbeats 1000000 in
theorem refFrm_1 (e : En) (a : ByteArray) (v old : Tm) (fr til : Int) (w : World) (h : ¬ til ≤ fr) (hb : entB e = true) (he : EnS e) (ha : a.size ≤ 1100) (hv : TmS v) :
    Calls Tryd.prog 9 #[.agg #[.int .i64 1, .int .i64 e.k, .int .i64 e.n, .string e.nm, .int .i64 e.vk, .int .i64 e.vn, .string e.vs, .string a, .bool v.ent, .int .i64 v.vk, .int .i64 v.vn, .string v.vs, .int .i64 v.e.k, .int .i64 v.e.n, .string v.e.nm, .int .i64 v.e.vk, .int .i64 v.e.vn, .string v.e.vs, .bool old.ent, .int .i64 old.vk, .int .i64 old.vn, .string old.vs, .int .i64 old.e.k, .int .i64 old.e.n, .string old.e.nm, .int .i64 old.e.vk, .int .i64 old.e.vn, .string old.e.vs, .int .i64 fr, .int .i64 til]] w fun e' w' => e' = .returned (.bool (formB ⟨1, e, a, v, old, fr, til⟩)) ∧ Below w.heap.size w w' := by
  rw [frm_12 a v old h hb (by decide)]
  have HV := Lib.hid (fun W => refEnt_any e W he)
  rw [hb] at HV
  have hq := fun W => eqlT old zT W
  have HA := Lib.hid (fun W => refMay_any 7 0 a W (leN ha))
  have HT := Lib.hid (fun W => refTrm_any v W hv)
  obtain ⟨m, hm⟩ : ∃ m, mayB 7 0 a = m := ⟨_, rfl⟩
  obtain ⟨u, hu⟩ : ∃ u, termB v = u := ⟨_, rfl⟩
  obtain ⟨q, hq0⟩ : ∃ q, sameT old zT = q := ⟨_, rfl⟩
  rw [hm] at HA ⊢
  rw [hu] at HT ⊢
  rw [hq0] at hq ⊢
  simp only [zT, zE, eB] at hq
  clear hm hq0 hu hb
  have HXs : Hid (Blk (w.alloc (.cells #[.int .i64 1, .int .i64 e.k, .int .i64 e.n, .string e.nm, .int .i64 e.vk, .int .i64 e.vn, .string e.vs, .string a, .bool v.ent, .int .i64 v.vk, .int .i64 v.vn, .string v.vs, .int .i64 v.e.k, .int .i64 v.e.n, .string v.e.nm, .int .i64 v.e.vk, .int .i64 v.e.vn, .string v.e.vs, .bool old.ent, .int .i64 old.vk, .int .i64 old.vn, .string old.vs, .int .i64 old.e.k, .int .i64 old.e.n, .string old.e.nm, .int .i64 old.e.vk, .int .i64 old.e.vn, .string old.e.vs, .int .i64 fr, .int .i64 til] 29)) w.heap.size #[.int .i64 1, .int .i64 e.k, .int .i64 e.n, .string e.nm, .int .i64 e.vk, .int .i64 e.vn, .string e.vs, .string a, .bool v.ent, .int .i64 v.vk, .int .i64 v.vn, .string v.vs, .int .i64 v.e.k, .int .i64 v.e.n, .string v.e.nm, .int .i64 v.e.vk, .int .i64 v.e.vn, .string v.e.vs, .bool old.ent, .int .i64 old.vk, .int .i64 old.vn, .string old.vs, .int .i64 old.e.k, .int .i64 old.e.n, .string old.e.nm, .int .i64 old.e.vk, .int .i64 old.e.vn, .string old.e.vs, .int .i64 fr, .int .i64 til] 29) := Blk.new _ _ _
  have HBs : Hid (Below w.heap.size w (w.alloc (.cells #[.int .i64 1, .int .i64 e.k, .int .i64 e.n, .string e.nm, .int .i64 e.vk, .int .i64 e.vn, .string e.vs, .string a, .bool v.ent, .int .i64 v.vk, .int .i64 v.vn, .string v.vs, .int .i64 v.e.k, .int .i64 v.e.n, .string v.e.nm, .int .i64 v.e.vk, .int .i64 v.e.vn, .string v.e.vs, .bool old.ent, .int .i64 old.vk, .int .i64 old.vn, .string old.vs, .int .i64 old.e.k, .int .i64 old.e.n, .string old.e.nm, .int .i64 old.e.vk, .int .i64 old.e.vn, .string old.e.vs, .int .i64 fr, .int .i64 til] 29))) := (Below.refl _ _).alloc (Nat.le_refl _) _
  cases m
  all_goals cases u
  all_goals
    go_enter Tryd.func9, Tryd.ntmps9
    go_wp2_with fail
    refine (HV.out _).mono ?_
    rintro e w2 ⟨rfl, hb⟩
    have HXw2 := Lib.hid (HXs.out.next hb HXs.out.lt)
    have HBw2 := Lib.hid (HBs.out.trans (hb.mono HBs.out.size))
    clear hb
    have c0 : w2.cell? ⟨w.heap.size, 0, none⟩ = some (.int .i64 1) := HXw2.out.cell 0
    have c1 : w2.cell? ⟨w.heap.size, 1, none⟩ = some (.int .i64 e.k) := HXw2.out.cell 1
    have c2 : w2.cell? ⟨w.heap.size, 2, none⟩ = some (.int .i64 e.n) := HXw2.out.cell 2
    have c3 : w2.cell? ⟨w.heap.size, 3, none⟩ = some (.string e.nm) := HXw2.out.cell 3
    have c4 : w2.cell? ⟨w.heap.size, 4, none⟩ = some (.int .i64 e.vk) := HXw2.out.cell 4
    have c5 : w2.cell? ⟨w.heap.size, 5, none⟩ = some (.int .i64 e.vn) := HXw2.out.cell 5
    have c6 : w2.cell? ⟨w.heap.size, 6, none⟩ = some (.string e.vs) := HXw2.out.cell 6
    have c7 : w2.cell? ⟨w.heap.size, 7, none⟩ = some (.string a) := HXw2.out.cell 7
    have c8 : w2.cell? ⟨w.heap.size, 8, none⟩ = some (.bool v.ent) := HXw2.out.cell 8
    have c9 : w2.cell? ⟨w.heap.size, 9, none⟩ = some (.int .i64 v.vk) := HXw2.out.cell 9
    have c10 : w2.cell? ⟨w.heap.size, 10, none⟩ = some (.int .i64 v.vn) := HXw2.out.cell 10
    have c11 : w2.cell? ⟨w.heap.size, 11, none⟩ = some (.string v.vs) := HXw2.out.cell 11
    have c12 : w2.cell? ⟨w.heap.size, 12, none⟩ = some (.int .i64 v.e.k) := HXw2.out.cell 12
    have c13 : w2.cell? ⟨w.heap.size, 13, none⟩ = some (.int .i64 v.e.n) := HXw2.out.cell 13
    have c14 : w2.cell? ⟨w.heap.size, 14, none⟩ = some (.string v.e.nm) := HXw2.out.cell 14
    have c15 : w2.cell? ⟨w.heap.size, 15, none⟩ = some (.int .i64 v.e.vk) := HXw2.out.cell 15
    have c16 : w2.cell? ⟨w.heap.size, 16, none⟩ = some (.int .i64 v.e.vn) := HXw2.out.cell 16
    have c17 : w2.cell? ⟨w.heap.size, 17, none⟩ = some (.string v.e.vs) := HXw2.out.cell 17
    have c18 : w2.cell? ⟨w.heap.size, 18, none⟩ = some (.bool old.ent) := HXw2.out.cell 18
    have c19 : w2.cell? ⟨w.heap.size, 19, none⟩ = some (.int .i64 old.vk) := HXw2.out.cell 19
    have c20 : w2.cell? ⟨w.heap.size, 20, none⟩ = some (.int .i64 old.vn) := HXw2.out.cell 20
    have c21 : w2.cell? ⟨w.heap.size, 21, none⟩ = some (.string old.vs) := HXw2.out.cell 21
    have c22 : w2.cell? ⟨w.heap.size, 22, none⟩ = some (.int .i64 old.e.k) := HXw2.out.cell 22
    have c23 : w2.cell? ⟨w.heap.size, 23, none⟩ = some (.int .i64 old.e.n) := HXw2.out.cell 23
    have c24 : w2.cell? ⟨w.heap.size, 24, none⟩ = some (.string old.e.nm) := HXw2.out.cell 24
    have c25 : w2.cell? ⟨w.heap.size, 25, none⟩ = some (.int .i64 old.e.vk) := HXw2.out.cell 25
    have c26 : w2.cell? ⟨w.heap.size, 26, none⟩ = some (.int .i64 old.e.vn) := HXw2.out.cell 26
    have c27 : w2.cell? ⟨w.heap.size, 27, none⟩ = some (.string old.e.vs) := HXw2.out.cell 27
    have c28 : w2.cell? ⟨w.heap.size, 28, none⟩ = some (.int .i64 fr) := HXw2.out.cell 28
    have c29 : w2.cell? ⟨w.heap.size, 29, none⟩ = some (.int .i64 til) := HXw2.out.cell 29
    go_wp2_with fail
    refine (HA.out _).mono ?_
    rintro e w3 ⟨rfl, hb⟩
    have HXw3 := Lib.hid (HXw2.out.next hb HXw2.out.lt)
    have HBw3 := Lib.hid (HBw2.out.trans (hb.mono HBw2.out.size))
    clear hb
    clear c0 c1 c2 c3 c4 c5 c6 c7 c8 c9 c10 c11 c12 c13 c14 c15 c16 c17 c18 c19 c20 c21 c22 c23 c24 c25 c26 c27 c28 c29
    have c0 : w3.cell? ⟨w.heap.size, 0, none⟩ = some (.int .i64 1) := HXw3.out.cell 0
    have c1 : w3.cell? ⟨w.heap.size, 1, none⟩ = some (.int .i64 e.k) := HXw3.out.cell 1
    have c2 : w3.cell? ⟨w.heap.size, 2, none⟩ = some (.int .i64 e.n) := HXw3.out.cell 2
    have c3 : w3.cell? ⟨w.heap.size, 3, none⟩ = some (.string e.nm) := HXw3.out.cell 3
    have c4 : w3.cell? ⟨w.heap.size, 4, none⟩ = some (.int .i64 e.vk) := HXw3.out.cell 4
    have c5 : w3.cell? ⟨w.heap.size, 5, none⟩ = some (.int .i64 e.vn) := HXw3.out.cell 5
    have c6 : w3.cell? ⟨w.heap.size, 6, none⟩ = some (.string e.vs) := HXw3.out.cell 6
    have c7 : w3.cell? ⟨w.heap.size, 7, none⟩ = some (.string a) := HXw3.out.cell 7
    have c8 : w3.cell? ⟨w.heap.size, 8, none⟩ = some (.bool v.ent) := HXw3.out.cell 8
    have c9 : w3.cell? ⟨w.heap.size, 9, none⟩ = some (.int .i64 v.vk) := HXw3.out.cell 9
    have c10 : w3.cell? ⟨w.heap.size, 10, none⟩ = some (.int .i64 v.vn) := HXw3.out.cell 10
    have c11 : w3.cell? ⟨w.heap.size, 11, none⟩ = some (.string v.vs) := HXw3.out.cell 11
    have c12 : w3.cell? ⟨w.heap.size, 12, none⟩ = some (.int .i64 v.e.k) := HXw3.out.cell 12
    have c13 : w3.cell? ⟨w.heap.size, 13, none⟩ = some (.int .i64 v.e.n) := HXw3.out.cell 13
    have c14 : w3.cell? ⟨w.heap.size, 14, none⟩ = some (.string v.e.nm) := HXw3.out.cell 14
    have c15 : w3.cell? ⟨w.heap.size, 15, none⟩ = some (.int .i64 v.e.vk) := HXw3.out.cell 15
    have c16 : w3.cell? ⟨w.heap.size, 16, none⟩ = some (.int .i64 v.e.vn) := HXw3.out.cell 16
    have c17 : w3.cell? ⟨w.heap.size, 17, none⟩ = some (.string v.e.vs) := HXw3.out.cell 17
    have c18 : w3.cell? ⟨w.heap.size, 18, none⟩ = some (.bool old.ent) := HXw3.out.cell 18
    have c19 : w3.cell? ⟨w.heap.size, 19, none⟩ = some (.int .i64 old.vk) := HXw3.out.cell 19
    have c20 : w3.cell? ⟨w.heap.size, 20, none⟩ = some (.int .i64 old.vn) := HXw3.out.cell 20
    have c21 : w3.cell? ⟨w.heap.size, 21, none⟩ = some (.string old.vs) := HXw3.out.cell 21
    have c22 : w3.cell? ⟨w.heap.size, 22, none⟩ = some (.int .i64 old.e.k) := HXw3.out.cell 22
    have c23 : w3.cell? ⟨w.heap.size, 23, none⟩ = some (.int .i64 old.e.n) := HXw3.out.cell 23
    have c24 : w3.cell? ⟨w.heap.size, 24, none⟩ = some (.string old.e.nm) := HXw3.out.cell 24
    have c25 : w3.cell? ⟨w.heap.size, 25, none⟩ = some (.int .i64 old.e.vk) := HXw3.out.cell 25
    have c26 : w3.cell? ⟨w.heap.size, 26, none⟩ = some (.int .i64 old.e.vn) := HXw3.out.cell 26
    have c27 : w3.cell? ⟨w.heap.size, 27, none⟩ = some (.string old.e.vs) := HXw3.out.cell 27
    have c28 : w3.cell? ⟨w.heap.size, 28, none⟩ = some (.int .i64 fr) := HXw3.out.cell 28
    have c29 : w3.cell? ⟨w.heap.size, 29, none⟩ = some (.int .i64 til) := HXw3.out.cell 29
    go_wp2_with fail
    refine (HT.out _).mono ?_
    rintro e w4 ⟨rfl, hb⟩
    have HXw4 := Lib.hid (HXw3.out.next hb HXw3.out.lt)
    have HBw4 := Lib.hid (HBw3.out.trans (hb.mono HBw3.out.size))
    clear hb
    clear c0 c1 c2 c3 c4 c5 c6 c7 c8 c9 c10 c11 c12 c13 c14 c15 c16 c17 c18 c19 c20 c21 c22 c23 c24 c25 c26 c27 c28 c29
    have c0 : w4.cell? ⟨w.heap.size, 0, none⟩ = some (.int .i64 1) := HXw4.out.cell 0
    have c28 : w4.cell? ⟨w.heap.size, 28, none⟩ = some (.int .i64 fr) := HXw4.out.cell 28
    have c29 : w4.cell? ⟨w.heap.size, 29, none⟩ = some (.int .i64 til) := HXw4.out.cell 29
    go_wp2
    go_ret
    exact ⟨rfl, HBw4.out⟩

set_option maxRecDepth 100000 in
set_option maxHeartbeats 1000000 in
theorem refFrm_2 (e : En) (a : ByteArray) (v old : Tm) (fr til : Int) (w : World) (h : ¬ til ≤ fr) (hb : entB e = true) (he : EnS e) (ha : a.size ≤ 1100) (hv : TmS v) :
    Calls Tryd.prog 9 #[.agg #[.int .i64 2, .int .i64 e.k, .int .i64 e.n, .string e.nm, .int .i64 e.vk, .int .i64 e.vn, .string e.vs, .string a, .bool v.ent, .int .i64 v.vk, .int .i64 v.vn, .string v.vs, .int .i64 v.e.k, .int .i64 v.e.n, .string v.e.nm, .int .i64 v.e.vk, .int .i64 v.e.vn, .string v.e.vs, .bool old.ent, .int .i64 old.vk, .int .i64 old.vn, .string old.vs, .int .i64 old.e.k, .int .i64 old.e.n, .string old.e.nm, .int .i64 old.e.vk, .int .i64 old.e.vn, .string old.e.vs, .int .i64 fr, .int .i64 til]] w fun e' w' => e' = .returned (.bool (formB ⟨2, e, a, v, old, fr, til⟩)) ∧ Below w.heap.size w w' := by
  rw [frm_12 a v old h hb (by decide)]
  have HV := Lib.hid (fun W => refEnt_any e W he)
  rw [hb] at HV
  have hq := fun W => eqlT old zT W
  have HA := Lib.hid (fun W => refMay_any 7 0 a W (leN ha))
  have HT := Lib.hid (fun W => refTrm_any v W hv)
  obtain ⟨m, hm⟩ : ∃ m, mayB 7 0 a = m := ⟨_, rfl⟩
  obtain ⟨u, hu⟩ : ∃ u, termB v = u := ⟨_, rfl⟩
  obtain ⟨q, hq0⟩ : ∃ q, sameT old zT = q := ⟨_, rfl⟩
  rw [hm] at HA ⊢
  rw [hu] at HT ⊢
  rw [hq0] at hq ⊢
  simp only [zT, zE, eB] at hq
  clear hm hq0 hu hb
  have HXs : Hid (Blk (w.alloc (.cells #[.int .i64 2, .int .i64 e.k, .int .i64 e.n, .string e.nm, .int .i64 e.vk, .int .i64 e.vn, .string e.vs, .string a, .bool v.ent, .int .i64 v.vk, .int .i64 v.vn, .string v.vs, .int .i64 v.e.k, .int .i64 v.e.n, .string v.e.nm, .int .i64 v.e.vk, .int .i64 v.e.vn, .string v.e.vs, .bool old.ent, .int .i64 old.vk, .int .i64 old.vn, .string old.vs, .int .i64 old.e.k, .int .i64 old.e.n, .string old.e.nm, .int .i64 old.e.vk, .int .i64 old.e.vn, .string old.e.vs, .int .i64 fr, .int .i64 til] 29)) w.heap.size #[.int .i64 2, .int .i64 e.k, .int .i64 e.n, .string e.nm, .int .i64 e.vk, .int .i64 e.vn, .string e.vs, .string a, .bool v.ent, .int .i64 v.vk, .int .i64 v.vn, .string v.vs, .int .i64 v.e.k, .int .i64 v.e.n, .string v.e.nm, .int .i64 v.e.vk, .int .i64 v.e.vn, .string v.e.vs, .bool old.ent, .int .i64 old.vk, .int .i64 old.vn, .string old.vs, .int .i64 old.e.k, .int .i64 old.e.n, .string old.e.nm, .int .i64 old.e.vk, .int .i64 old.e.vn, .string old.e.vs, .int .i64 fr, .int .i64 til] 29) := Blk.new _ _ _
  have HBs : Hid (Below w.heap.size w (w.alloc (.cells #[.int .i64 2, .int .i64 e.k, .int .i64 e.n, .string e.nm, .int .i64 e.vk, .int .i64 e.vn, .string e.vs, .string a, .bool v.ent, .int .i64 v.vk, .int .i64 v.vn, .string v.vs, .int .i64 v.e.k, .int .i64 v.e.n, .string v.e.nm, .int .i64 v.e.vk, .int .i64 v.e.vn, .string v.e.vs, .bool old.ent, .int .i64 old.vk, .int .i64 old.vn, .string old.vs, .int .i64 old.e.k, .int .i64 old.e.n, .string old.e.nm, .int .i64 old.e.vk, .int .i64 old.e.vn, .string old.e.vs, .int .i64 fr, .int .i64 til] 29))) := (Below.refl _ _).alloc (Nat.le_refl _) _
  cases m
  all_goals cases u
  all_goals
    go_enter Tryd.func9, Tryd.ntmps9
    go_wp2_with fail
    refine (HV.out _).mono ?_
    rintro e w2 ⟨rfl, hb⟩
    have HXw2 := Lib.hid (HXs.out.next hb HXs.out.lt)
    have HBw2 := Lib.hid (HBs.out.trans (hb.mono HBs.out.size))
    clear hb
    have c0 : w2.cell? ⟨w.heap.size, 0, none⟩ = some (.int .i64 2) := HXw2.out.cell 0
    have c1 : w2.cell? ⟨w.heap.size, 1, none⟩ = some (.int .i64 e.k) := HXw2.out.cell 1
    have c2 : w2.cell? ⟨w.heap.size, 2, none⟩ = some (.int .i64 e.n) := HXw2.out.cell 2
    have c3 : w2.cell? ⟨w.heap.size, 3, none⟩ = some (.string e.nm) := HXw2.out.cell 3
    have c4 : w2.cell? ⟨w.heap.size, 4, none⟩ = some (.int .i64 e.vk) := HXw2.out.cell 4
    have c5 : w2.cell? ⟨w.heap.size, 5, none⟩ = some (.int .i64 e.vn) := HXw2.out.cell 5
    have c6 : w2.cell? ⟨w.heap.size, 6, none⟩ = some (.string e.vs) := HXw2.out.cell 6
    have c7 : w2.cell? ⟨w.heap.size, 7, none⟩ = some (.string a) := HXw2.out.cell 7
    have c8 : w2.cell? ⟨w.heap.size, 8, none⟩ = some (.bool v.ent) := HXw2.out.cell 8
    have c9 : w2.cell? ⟨w.heap.size, 9, none⟩ = some (.int .i64 v.vk) := HXw2.out.cell 9
    have c10 : w2.cell? ⟨w.heap.size, 10, none⟩ = some (.int .i64 v.vn) := HXw2.out.cell 10
    have c11 : w2.cell? ⟨w.heap.size, 11, none⟩ = some (.string v.vs) := HXw2.out.cell 11
    have c12 : w2.cell? ⟨w.heap.size, 12, none⟩ = some (.int .i64 v.e.k) := HXw2.out.cell 12
    have c13 : w2.cell? ⟨w.heap.size, 13, none⟩ = some (.int .i64 v.e.n) := HXw2.out.cell 13
    have c14 : w2.cell? ⟨w.heap.size, 14, none⟩ = some (.string v.e.nm) := HXw2.out.cell 14
    have c15 : w2.cell? ⟨w.heap.size, 15, none⟩ = some (.int .i64 v.e.vk) := HXw2.out.cell 15
    have c16 : w2.cell? ⟨w.heap.size, 16, none⟩ = some (.int .i64 v.e.vn) := HXw2.out.cell 16
    have c17 : w2.cell? ⟨w.heap.size, 17, none⟩ = some (.string v.e.vs) := HXw2.out.cell 17
    have c18 : w2.cell? ⟨w.heap.size, 18, none⟩ = some (.bool old.ent) := HXw2.out.cell 18
    have c19 : w2.cell? ⟨w.heap.size, 19, none⟩ = some (.int .i64 old.vk) := HXw2.out.cell 19
    have c20 : w2.cell? ⟨w.heap.size, 20, none⟩ = some (.int .i64 old.vn) := HXw2.out.cell 20
    have c21 : w2.cell? ⟨w.heap.size, 21, none⟩ = some (.string old.vs) := HXw2.out.cell 21
    have c22 : w2.cell? ⟨w.heap.size, 22, none⟩ = some (.int .i64 old.e.k) := HXw2.out.cell 22
    have c23 : w2.cell? ⟨w.heap.size, 23, none⟩ = some (.int .i64 old.e.n) := HXw2.out.cell 23
    have c24 : w2.cell? ⟨w.heap.size, 24, none⟩ = some (.string old.e.nm) := HXw2.out.cell 24
    have c25 : w2.cell? ⟨w.heap.size, 25, none⟩ = some (.int .i64 old.e.vk) := HXw2.out.cell 25
    have c26 : w2.cell? ⟨w.heap.size, 26, none⟩ = some (.int .i64 old.e.vn) := HXw2.out.cell 26
    have c27 : w2.cell? ⟨w.heap.size, 27, none⟩ = some (.string old.e.vs) := HXw2.out.cell 27
    have c28 : w2.cell? ⟨w.heap.size, 28, none⟩ = some (.int .i64 fr) := HXw2.out.cell 28
    have c29 : w2.cell? ⟨w.heap.size, 29, none⟩ = some (.int .i64 til) := HXw2.out.cell 29
    go_wp2_with fail
    refine (HA.out _).mono ?_
    rintro e w3 ⟨rfl, hb⟩
    have HXw3 := Lib.hid (HXw2.out.next hb HXw2.out.lt)
    have HBw3 := Lib.hid (HBw2.out.trans (hb.mono HBw2.out.size))
    clear hb
    clear c0 c1 c2 c3 c4 c5 c6 c7 c8 c9 c10 c11 c12 c13 c14 c15 c16 c17 c18 c19 c20 c21 c22 c23 c24 c25 c26 c27 c28 c29
    have c0 : w3.cell? ⟨w.heap.size, 0, none⟩ = some (.int .i64 2) := HXw3.out.cell 0
    have c1 : w3.cell? ⟨w.heap.size, 1, none⟩ = some (.int .i64 e.k) := HXw3.out.cell 1
    have c2 : w3.cell? ⟨w.heap.size, 2, none⟩ = some (.int .i64 e.n) := HXw3.out.cell 2
    have c3 : w3.cell? ⟨w.heap.size, 3, none⟩ = some (.string e.nm) := HXw3.out.cell 3
    have c4 : w3.cell? ⟨w.heap.size, 4, none⟩ = some (.int .i64 e.vk) := HXw3.out.cell 4
    have c5 : w3.cell? ⟨w.heap.size, 5, none⟩ = some (.int .i64 e.vn) := HXw3.out.cell 5
    have c6 : w3.cell? ⟨w.heap.size, 6, none⟩ = some (.string e.vs) := HXw3.out.cell 6
    have c7 : w3.cell? ⟨w.heap.size, 7, none⟩ = some (.string a) := HXw3.out.cell 7
    have c8 : w3.cell? ⟨w.heap.size, 8, none⟩ = some (.bool v.ent) := HXw3.out.cell 8
    have c9 : w3.cell? ⟨w.heap.size, 9, none⟩ = some (.int .i64 v.vk) := HXw3.out.cell 9
    have c10 : w3.cell? ⟨w.heap.size, 10, none⟩ = some (.int .i64 v.vn) := HXw3.out.cell 10
    have c11 : w3.cell? ⟨w.heap.size, 11, none⟩ = some (.string v.vs) := HXw3.out.cell 11
    have c12 : w3.cell? ⟨w.heap.size, 12, none⟩ = some (.int .i64 v.e.k) := HXw3.out.cell 12
    have c13 : w3.cell? ⟨w.heap.size, 13, none⟩ = some (.int .i64 v.e.n) := HXw3.out.cell 13
    have c14 : w3.cell? ⟨w.heap.size, 14, none⟩ = some (.string v.e.nm) := HXw3.out.cell 14
    have c15 : w3.cell? ⟨w.heap.size, 15, none⟩ = some (.int .i64 v.e.vk) := HXw3.out.cell 15
    have c16 : w3.cell? ⟨w.heap.size, 16, none⟩ = some (.int .i64 v.e.vn) := HXw3.out.cell 16
    have c17 : w3.cell? ⟨w.heap.size, 17, none⟩ = some (.string v.e.vs) := HXw3.out.cell 17
    have c18 : w3.cell? ⟨w.heap.size, 18, none⟩ = some (.bool old.ent) := HXw3.out.cell 18
    have c19 : w3.cell? ⟨w.heap.size, 19, none⟩ = some (.int .i64 old.vk) := HXw3.out.cell 19
    have c20 : w3.cell? ⟨w.heap.size, 20, none⟩ = some (.int .i64 old.vn) := HXw3.out.cell 20
    have c21 : w3.cell? ⟨w.heap.size, 21, none⟩ = some (.string old.vs) := HXw3.out.cell 21
    have c22 : w3.cell? ⟨w.heap.size, 22, none⟩ = some (.int .i64 old.e.k) := HXw3.out.cell 22
    have c23 : w3.cell? ⟨w.heap.size, 23, none⟩ = some (.int .i64 old.e.n) := HXw3.out.cell 23
    have c24 : w3.cell? ⟨w.heap.size, 24, none⟩ = some (.string old.e.nm) := HXw3.out.cell 24
    have c25 : w3.cell? ⟨w.heap.size, 25, none⟩ = some (.int .i64 old.e.vk) := HXw3.out.cell 25
    have c26 : w3.cell? ⟨w.heap.size, 26, none⟩ = some (.int .i64 old.e.vn) := HXw3.out.cell 26
    have c27 : w3.cell? ⟨w.heap.size, 27, none⟩ = some (.string old.e.vs) := HXw3.out.cell 27
    have c28 : w3.cell? ⟨w.heap.size, 28, none⟩ = some (.int .i64 fr) := HXw3.out.cell 28
    have c29 : w3.cell? ⟨w.heap.size, 29, none⟩ = some (.int .i64 til) := HXw3.out.cell 29
    go_wp2_with fail
    refine (HT.out _).mono ?_
    rintro e w4 ⟨rfl, hb⟩
    have HXw4 := Lib.hid (HXw3.out.next hb HXw3.out.lt)
    have HBw4 := Lib.hid (HBw3.out.trans (hb.mono HBw3.out.size))
    clear hb
    clear c0 c1 c2 c3 c4 c5 c6 c7 c8 c9 c10 c11 c12 c13 c14 c15 c16 c17 c18 c19 c20 c21 c22 c23 c24 c25 c26 c27 c28 c29
    have c0 : w4.cell? ⟨w.heap.size, 0, none⟩ = some (.int .i64 2) := HXw4.out.cell 0
    have c28 : w4.cell? ⟨w.heap.size, 28, none⟩ = some (.int .i64 fr) := HXw4.out.cell 28
    have c29 : w4.cell? ⟨w.heap.size, 29, none⟩ = some (.int .i64 til) := HXw4.out.cell 29
    go_wp2
    go_ret
    exact ⟨rfl, HBw4.out⟩

set_option maxRecDepth 100000 in
set_option maxHeartbeats 1000000 in
theorem refFrm_3 (e : En) (a : ByteArray) (v old : Tm) (fr til : Int) (w : World) (h : ¬ til ≤ fr) (hb : entB e = true) (he : EnS e) :
    Calls Tryd.prog 9 #[.agg #[.int .i64 3, .int .i64 e.k, .int .i64 e.n, .string e.nm, .int .i64 e.vk, .int .i64 e.vn, .string e.vs, .string a, .bool v.ent, .int .i64 v.vk, .int .i64 v.vn, .string v.vs, .int .i64 v.e.k, .int .i64 v.e.n, .string v.e.nm, .int .i64 v.e.vk, .int .i64 v.e.vn, .string v.e.vs, .bool old.ent, .int .i64 old.vk, .int .i64 old.vn, .string old.vs, .int .i64 old.e.k, .int .i64 old.e.n, .string old.e.nm, .int .i64 old.e.vk, .int .i64 old.e.vn, .string old.e.vs, .int .i64 fr, .int .i64 til]] w fun e' w' => e' = .returned (.bool (formB ⟨3, e, a, v, old, fr, til⟩)) ∧ Below w.heap.size w w' := by
  have HF := Lib.hid (frm_3' a v old h hb)
  have HV := Lib.hid (fun W => refEnt_any e W he)
  rw [hb] at HV
  have hq := fun W => eqlT old zT W
  have hp := fun W => eqlT v zT W
  obtain ⟨q, hq0⟩ : ∃ q, sameT old zT = q := ⟨_, rfl⟩
  obtain ⟨p, hp0⟩ : ∃ p, sameT v zT = p := ⟨_, rfl⟩
  rw [hq0] at hq HF
  rw [hp0] at hp HF
  simp only [zT, zE, eB] at hq hp
  clear hq0 hp0 hb
  have HXs : Hid (Blk (w.alloc (.cells #[.int .i64 3, .int .i64 e.k, .int .i64 e.n, .string e.nm, .int .i64 e.vk, .int .i64 e.vn, .string e.vs, .string a, .bool v.ent, .int .i64 v.vk, .int .i64 v.vn, .string v.vs, .int .i64 v.e.k, .int .i64 v.e.n, .string v.e.nm, .int .i64 v.e.vk, .int .i64 v.e.vn, .string v.e.vs, .bool old.ent, .int .i64 old.vk, .int .i64 old.vn, .string old.vs, .int .i64 old.e.k, .int .i64 old.e.n, .string old.e.nm, .int .i64 old.e.vk, .int .i64 old.e.vn, .string old.e.vs, .int .i64 fr, .int .i64 til] 29)) w.heap.size #[.int .i64 3, .int .i64 e.k, .int .i64 e.n, .string e.nm, .int .i64 e.vk, .int .i64 e.vn, .string e.vs, .string a, .bool v.ent, .int .i64 v.vk, .int .i64 v.vn, .string v.vs, .int .i64 v.e.k, .int .i64 v.e.n, .string v.e.nm, .int .i64 v.e.vk, .int .i64 v.e.vn, .string v.e.vs, .bool old.ent, .int .i64 old.vk, .int .i64 old.vn, .string old.vs, .int .i64 old.e.k, .int .i64 old.e.n, .string old.e.nm, .int .i64 old.e.vk, .int .i64 old.e.vn, .string old.e.vs, .int .i64 fr, .int .i64 til] 29) := Blk.new _ _ _
  have HBs : Hid (Below w.heap.size w (w.alloc (.cells #[.int .i64 3, .int .i64 e.k, .int .i64 e.n, .string e.nm, .int .i64 e.vk, .int .i64 e.vn, .string e.vs, .string a, .bool v.ent, .int .i64 v.vk, .int .i64 v.vn, .string v.vs, .int .i64 v.e.k, .int .i64 v.e.n, .string v.e.nm, .int .i64 v.e.vk, .int .i64 v.e.vn, .string v.e.vs, .bool old.ent, .int .i64 old.vk, .int .i64 old.vn, .string old.vs, .int .i64 old.e.k, .int .i64 old.e.n, .string old.e.nm, .int .i64 old.e.vk, .int .i64 old.e.vn, .string old.e.vs, .int .i64 fr, .int .i64 til] 29))) := (Below.refl _ _).alloc (Nat.le_refl _) _
  cases q
  · have HR : Hid (formB ⟨3, e, a, v, old, fr, til⟩ = false) := by show _ = _; rw [HF.out]; rfl
    go_enter Tryd.func9, Tryd.ntmps9
    go_wp2_with fail
    refine (HV.out _).mono ?_
    rintro e w2 ⟨rfl, hb⟩
    have HXw2 := Lib.hid (HXs.out.next hb HXs.out.lt)
    have HBw2 := Lib.hid (HBs.out.trans (hb.mono HBs.out.size))
    clear hb
    have c0 : w2.cell? ⟨w.heap.size, 0, none⟩ = some (.int .i64 3) := HXw2.out.cell 0
    have c1 : w2.cell? ⟨w.heap.size, 1, none⟩ = some (.int .i64 e.k) := HXw2.out.cell 1
    have c2 : w2.cell? ⟨w.heap.size, 2, none⟩ = some (.int .i64 e.n) := HXw2.out.cell 2
    have c3 : w2.cell? ⟨w.heap.size, 3, none⟩ = some (.string e.nm) := HXw2.out.cell 3
    have c4 : w2.cell? ⟨w.heap.size, 4, none⟩ = some (.int .i64 e.vk) := HXw2.out.cell 4
    have c5 : w2.cell? ⟨w.heap.size, 5, none⟩ = some (.int .i64 e.vn) := HXw2.out.cell 5
    have c6 : w2.cell? ⟨w.heap.size, 6, none⟩ = some (.string e.vs) := HXw2.out.cell 6
    have c7 : w2.cell? ⟨w.heap.size, 7, none⟩ = some (.string a) := HXw2.out.cell 7
    have c8 : w2.cell? ⟨w.heap.size, 8, none⟩ = some (.bool v.ent) := HXw2.out.cell 8
    have c9 : w2.cell? ⟨w.heap.size, 9, none⟩ = some (.int .i64 v.vk) := HXw2.out.cell 9
    have c10 : w2.cell? ⟨w.heap.size, 10, none⟩ = some (.int .i64 v.vn) := HXw2.out.cell 10
    have c11 : w2.cell? ⟨w.heap.size, 11, none⟩ = some (.string v.vs) := HXw2.out.cell 11
    have c12 : w2.cell? ⟨w.heap.size, 12, none⟩ = some (.int .i64 v.e.k) := HXw2.out.cell 12
    have c13 : w2.cell? ⟨w.heap.size, 13, none⟩ = some (.int .i64 v.e.n) := HXw2.out.cell 13
    have c14 : w2.cell? ⟨w.heap.size, 14, none⟩ = some (.string v.e.nm) := HXw2.out.cell 14
    have c15 : w2.cell? ⟨w.heap.size, 15, none⟩ = some (.int .i64 v.e.vk) := HXw2.out.cell 15
    have c16 : w2.cell? ⟨w.heap.size, 16, none⟩ = some (.int .i64 v.e.vn) := HXw2.out.cell 16
    have c17 : w2.cell? ⟨w.heap.size, 17, none⟩ = some (.string v.e.vs) := HXw2.out.cell 17
    have c18 : w2.cell? ⟨w.heap.size, 18, none⟩ = some (.bool old.ent) := HXw2.out.cell 18
    have c19 : w2.cell? ⟨w.heap.size, 19, none⟩ = some (.int .i64 old.vk) := HXw2.out.cell 19
    have c20 : w2.cell? ⟨w.heap.size, 20, none⟩ = some (.int .i64 old.vn) := HXw2.out.cell 20
    have c21 : w2.cell? ⟨w.heap.size, 21, none⟩ = some (.string old.vs) := HXw2.out.cell 21
    have c22 : w2.cell? ⟨w.heap.size, 22, none⟩ = some (.int .i64 old.e.k) := HXw2.out.cell 22
    have c23 : w2.cell? ⟨w.heap.size, 23, none⟩ = some (.int .i64 old.e.n) := HXw2.out.cell 23
    have c24 : w2.cell? ⟨w.heap.size, 24, none⟩ = some (.string old.e.nm) := HXw2.out.cell 24
    have c25 : w2.cell? ⟨w.heap.size, 25, none⟩ = some (.int .i64 old.e.vk) := HXw2.out.cell 25
    have c26 : w2.cell? ⟨w.heap.size, 26, none⟩ = some (.int .i64 old.e.vn) := HXw2.out.cell 26
    have c27 : w2.cell? ⟨w.heap.size, 27, none⟩ = some (.string old.e.vs) := HXw2.out.cell 27
    have c28 : w2.cell? ⟨w.heap.size, 28, none⟩ = some (.int .i64 fr) := HXw2.out.cell 28
    have c29 : w2.cell? ⟨w.heap.size, 29, none⟩ = some (.int .i64 til) := HXw2.out.cell 29
    go_wp2
    go_ret
    exact ⟨by first | (rw [HR.out]; rfl) | (rw [HR.out]; simp [*]), HBw2.out⟩
  · by_cases hE : a.toList = []
    · have HR : Hid (formB ⟨3, e, a, v, old, fr, til⟩ = p) := by show _ = _; rw [HF.out]; simp [hE]
      go_enter Tryd.func9, Tryd.ntmps9
      go_wp2_with fail
      refine (HV.out _).mono ?_
      rintro e w2 ⟨rfl, hb⟩
      have HXw2 := Lib.hid (HXs.out.next hb HXs.out.lt)
      have HBw2 := Lib.hid (HBs.out.trans (hb.mono HBs.out.size))
      clear hb
      have c0 : w2.cell? ⟨w.heap.size, 0, none⟩ = some (.int .i64 3) := HXw2.out.cell 0
      have c1 : w2.cell? ⟨w.heap.size, 1, none⟩ = some (.int .i64 e.k) := HXw2.out.cell 1
      have c2 : w2.cell? ⟨w.heap.size, 2, none⟩ = some (.int .i64 e.n) := HXw2.out.cell 2
      have c3 : w2.cell? ⟨w.heap.size, 3, none⟩ = some (.string e.nm) := HXw2.out.cell 3
      have c4 : w2.cell? ⟨w.heap.size, 4, none⟩ = some (.int .i64 e.vk) := HXw2.out.cell 4
      have c5 : w2.cell? ⟨w.heap.size, 5, none⟩ = some (.int .i64 e.vn) := HXw2.out.cell 5
      have c6 : w2.cell? ⟨w.heap.size, 6, none⟩ = some (.string e.vs) := HXw2.out.cell 6
      have c7 : w2.cell? ⟨w.heap.size, 7, none⟩ = some (.string a) := HXw2.out.cell 7
      have c8 : w2.cell? ⟨w.heap.size, 8, none⟩ = some (.bool v.ent) := HXw2.out.cell 8
      have c9 : w2.cell? ⟨w.heap.size, 9, none⟩ = some (.int .i64 v.vk) := HXw2.out.cell 9
      have c10 : w2.cell? ⟨w.heap.size, 10, none⟩ = some (.int .i64 v.vn) := HXw2.out.cell 10
      have c11 : w2.cell? ⟨w.heap.size, 11, none⟩ = some (.string v.vs) := HXw2.out.cell 11
      have c12 : w2.cell? ⟨w.heap.size, 12, none⟩ = some (.int .i64 v.e.k) := HXw2.out.cell 12
      have c13 : w2.cell? ⟨w.heap.size, 13, none⟩ = some (.int .i64 v.e.n) := HXw2.out.cell 13
      have c14 : w2.cell? ⟨w.heap.size, 14, none⟩ = some (.string v.e.nm) := HXw2.out.cell 14
      have c15 : w2.cell? ⟨w.heap.size, 15, none⟩ = some (.int .i64 v.e.vk) := HXw2.out.cell 15
      have c16 : w2.cell? ⟨w.heap.size, 16, none⟩ = some (.int .i64 v.e.vn) := HXw2.out.cell 16
      have c17 : w2.cell? ⟨w.heap.size, 17, none⟩ = some (.string v.e.vs) := HXw2.out.cell 17
      have c18 : w2.cell? ⟨w.heap.size, 18, none⟩ = some (.bool old.ent) := HXw2.out.cell 18
      have c19 : w2.cell? ⟨w.heap.size, 19, none⟩ = some (.int .i64 old.vk) := HXw2.out.cell 19
      have c20 : w2.cell? ⟨w.heap.size, 20, none⟩ = some (.int .i64 old.vn) := HXw2.out.cell 20
      have c21 : w2.cell? ⟨w.heap.size, 21, none⟩ = some (.string old.vs) := HXw2.out.cell 21
      have c22 : w2.cell? ⟨w.heap.size, 22, none⟩ = some (.int .i64 old.e.k) := HXw2.out.cell 22
      have c23 : w2.cell? ⟨w.heap.size, 23, none⟩ = some (.int .i64 old.e.n) := HXw2.out.cell 23
      have c24 : w2.cell? ⟨w.heap.size, 24, none⟩ = some (.string old.e.nm) := HXw2.out.cell 24
      have c25 : w2.cell? ⟨w.heap.size, 25, none⟩ = some (.int .i64 old.e.vk) := HXw2.out.cell 25
      have c26 : w2.cell? ⟨w.heap.size, 26, none⟩ = some (.int .i64 old.e.vn) := HXw2.out.cell 26
      have c27 : w2.cell? ⟨w.heap.size, 27, none⟩ = some (.string old.e.vs) := HXw2.out.cell 27
      have c28 : w2.cell? ⟨w.heap.size, 28, none⟩ = some (.int .i64 fr) := HXw2.out.cell 28
      have c29 : w2.cell? ⟨w.heap.size, 29, none⟩ = some (.int .i64 til) := HXw2.out.cell 29
      go_wp2
      go_ret
      exact ⟨by first | (rw [HR.out]; rfl) | (rw [HR.out]; simp [*]), HBw2.out⟩
    · have HR : Hid (formB ⟨3, e, a, v, old, fr, til⟩ = false) := by show _ = _; rw [HF.out]; simp [hE]
      go_enter Tryd.func9, Tryd.ntmps9
      go_wp2_with fail
      refine (HV.out _).mono ?_
      rintro e w2 ⟨rfl, hb⟩
      have HXw2 := Lib.hid (HXs.out.next hb HXs.out.lt)
      have HBw2 := Lib.hid (HBs.out.trans (hb.mono HBs.out.size))
      clear hb
      have c0 : w2.cell? ⟨w.heap.size, 0, none⟩ = some (.int .i64 3) := HXw2.out.cell 0
      have c1 : w2.cell? ⟨w.heap.size, 1, none⟩ = some (.int .i64 e.k) := HXw2.out.cell 1
      have c2 : w2.cell? ⟨w.heap.size, 2, none⟩ = some (.int .i64 e.n) := HXw2.out.cell 2
      have c3 : w2.cell? ⟨w.heap.size, 3, none⟩ = some (.string e.nm) := HXw2.out.cell 3
      have c4 : w2.cell? ⟨w.heap.size, 4, none⟩ = some (.int .i64 e.vk) := HXw2.out.cell 4
      have c5 : w2.cell? ⟨w.heap.size, 5, none⟩ = some (.int .i64 e.vn) := HXw2.out.cell 5
      have c6 : w2.cell? ⟨w.heap.size, 6, none⟩ = some (.string e.vs) := HXw2.out.cell 6
      have c7 : w2.cell? ⟨w.heap.size, 7, none⟩ = some (.string a) := HXw2.out.cell 7
      have c8 : w2.cell? ⟨w.heap.size, 8, none⟩ = some (.bool v.ent) := HXw2.out.cell 8
      have c9 : w2.cell? ⟨w.heap.size, 9, none⟩ = some (.int .i64 v.vk) := HXw2.out.cell 9
      have c10 : w2.cell? ⟨w.heap.size, 10, none⟩ = some (.int .i64 v.vn) := HXw2.out.cell 10
      have c11 : w2.cell? ⟨w.heap.size, 11, none⟩ = some (.string v.vs) := HXw2.out.cell 11
      have c12 : w2.cell? ⟨w.heap.size, 12, none⟩ = some (.int .i64 v.e.k) := HXw2.out.cell 12
      have c13 : w2.cell? ⟨w.heap.size, 13, none⟩ = some (.int .i64 v.e.n) := HXw2.out.cell 13
      have c14 : w2.cell? ⟨w.heap.size, 14, none⟩ = some (.string v.e.nm) := HXw2.out.cell 14
      have c15 : w2.cell? ⟨w.heap.size, 15, none⟩ = some (.int .i64 v.e.vk) := HXw2.out.cell 15
      have c16 : w2.cell? ⟨w.heap.size, 16, none⟩ = some (.int .i64 v.e.vn) := HXw2.out.cell 16
      have c17 : w2.cell? ⟨w.heap.size, 17, none⟩ = some (.string v.e.vs) := HXw2.out.cell 17
      have c18 : w2.cell? ⟨w.heap.size, 18, none⟩ = some (.bool old.ent) := HXw2.out.cell 18
      have c19 : w2.cell? ⟨w.heap.size, 19, none⟩ = some (.int .i64 old.vk) := HXw2.out.cell 19
      have c20 : w2.cell? ⟨w.heap.size, 20, none⟩ = some (.int .i64 old.vn) := HXw2.out.cell 20
      have c21 : w2.cell? ⟨w.heap.size, 21, none⟩ = some (.string old.vs) := HXw2.out.cell 21
      have c22 : w2.cell? ⟨w.heap.size, 22, none⟩ = some (.int .i64 old.e.k) := HXw2.out.cell 22
      have c23 : w2.cell? ⟨w.heap.size, 23, none⟩ = some (.int .i64 old.e.n) := HXw2.out.cell 23
      have c24 : w2.cell? ⟨w.heap.size, 24, none⟩ = some (.string old.e.nm) := HXw2.out.cell 24
      have c25 : w2.cell? ⟨w.heap.size, 25, none⟩ = some (.int .i64 old.e.vk) := HXw2.out.cell 25
      have c26 : w2.cell? ⟨w.heap.size, 26, none⟩ = some (.int .i64 old.e.vn) := HXw2.out.cell 26
      have c27 : w2.cell? ⟨w.heap.size, 27, none⟩ = some (.string old.e.vs) := HXw2.out.cell 27
      have c28 : w2.cell? ⟨w.heap.size, 28, none⟩ = some (.int .i64 fr) := HXw2.out.cell 28
      have c29 : w2.cell? ⟨w.heap.size, 29, none⟩ = some (.int .i64 til) := HXw2.out.cell 29
      go_wp2
      go_ret
      exact ⟨by first | (rw [HR.out]; rfl) | (rw [HR.out]; simp [*]), HBw2.out⟩

set_option maxRecDepth 100000 in
set_option maxHeartbeats 1000000 in
theorem refFrm_4 (e : En) (a : ByteArray) (v old : Tm) (fr til : Int) (w : World) (h : ¬ til ≤ fr) (hb : entB e = true) (he : EnS e) (ha : a.size ≤ 1100) (hv : TmS v) (ho : TmS old) :
    Calls Tryd.prog 9 #[.agg #[.int .i64 4, .int .i64 e.k, .int .i64 e.n, .string e.nm, .int .i64 e.vk, .int .i64 e.vn, .string e.vs, .string a, .bool v.ent, .int .i64 v.vk, .int .i64 v.vn, .string v.vs, .int .i64 v.e.k, .int .i64 v.e.n, .string v.e.nm, .int .i64 v.e.vk, .int .i64 v.e.vn, .string v.e.vs, .bool old.ent, .int .i64 old.vk, .int .i64 old.vn, .string old.vs, .int .i64 old.e.k, .int .i64 old.e.n, .string old.e.nm, .int .i64 old.e.vk, .int .i64 old.e.vn, .string old.e.vs, .int .i64 fr, .int .i64 til]] w fun e' w' => e' = .returned (.bool (formB ⟨4, e, a, v, old, fr, til⟩)) ∧ Below w.heap.size w w' := by
  rw [frm_4 a v old h hb]
  have HV := Lib.hid (fun W => refEnt_any e W he)
  rw [hb] at HV
  have hq := fun W => eqlT old zT W
  have HA := Lib.hid (fun W => refMay_any 7 0 a W (leN ha))
  have HT := Lib.hid (fun W => refTrm_any v W hv)
  have HO := Lib.hid (fun W => refTrm_any old W ho)
  obtain ⟨m, hm⟩ : ∃ m, mayB 7 0 a = m := ⟨_, rfl⟩
  obtain ⟨u, hu⟩ : ∃ u, termB v = u := ⟨_, rfl⟩
  obtain ⟨p, hp⟩ : ∃ p, termB old = p := ⟨_, rfl⟩
  obtain ⟨q, hq0⟩ : ∃ q, sameT old zT = q := ⟨_, rfl⟩
  rw [hm] at HA ⊢
  rw [hu] at HT ⊢
  rw [hp] at HO ⊢
  rw [hq0] at hq
  simp only [zT, zE, eB] at hq
  clear hm hq0 hu hb hp
  have HXs : Hid (Blk (w.alloc (.cells #[.int .i64 4, .int .i64 e.k, .int .i64 e.n, .string e.nm, .int .i64 e.vk, .int .i64 e.vn, .string e.vs, .string a, .bool v.ent, .int .i64 v.vk, .int .i64 v.vn, .string v.vs, .int .i64 v.e.k, .int .i64 v.e.n, .string v.e.nm, .int .i64 v.e.vk, .int .i64 v.e.vn, .string v.e.vs, .bool old.ent, .int .i64 old.vk, .int .i64 old.vn, .string old.vs, .int .i64 old.e.k, .int .i64 old.e.n, .string old.e.nm, .int .i64 old.e.vk, .int .i64 old.e.vn, .string old.e.vs, .int .i64 fr, .int .i64 til] 29)) w.heap.size #[.int .i64 4, .int .i64 e.k, .int .i64 e.n, .string e.nm, .int .i64 e.vk, .int .i64 e.vn, .string e.vs, .string a, .bool v.ent, .int .i64 v.vk, .int .i64 v.vn, .string v.vs, .int .i64 v.e.k, .int .i64 v.e.n, .string v.e.nm, .int .i64 v.e.vk, .int .i64 v.e.vn, .string v.e.vs, .bool old.ent, .int .i64 old.vk, .int .i64 old.vn, .string old.vs, .int .i64 old.e.k, .int .i64 old.e.n, .string old.e.nm, .int .i64 old.e.vk, .int .i64 old.e.vn, .string old.e.vs, .int .i64 fr, .int .i64 til] 29) := Blk.new _ _ _
  have HBs : Hid (Below w.heap.size w (w.alloc (.cells #[.int .i64 4, .int .i64 e.k, .int .i64 e.n, .string e.nm, .int .i64 e.vk, .int .i64 e.vn, .string e.vs, .string a, .bool v.ent, .int .i64 v.vk, .int .i64 v.vn, .string v.vs, .int .i64 v.e.k, .int .i64 v.e.n, .string v.e.nm, .int .i64 v.e.vk, .int .i64 v.e.vn, .string v.e.vs, .bool old.ent, .int .i64 old.vk, .int .i64 old.vn, .string old.vs, .int .i64 old.e.k, .int .i64 old.e.n, .string old.e.nm, .int .i64 old.e.vk, .int .i64 old.e.vn, .string old.e.vs, .int .i64 fr, .int .i64 til] 29))) := (Below.refl _ _).alloc (Nat.le_refl _) _
  cases m
  all_goals cases u
  all_goals
    go_enter Tryd.func9, Tryd.ntmps9
    go_wp2_with fail
    refine (HV.out _).mono ?_
    rintro e w2 ⟨rfl, hb⟩
    have HXw2 := Lib.hid (HXs.out.next hb HXs.out.lt)
    have HBw2 := Lib.hid (HBs.out.trans (hb.mono HBs.out.size))
    clear hb
    have c0 : w2.cell? ⟨w.heap.size, 0, none⟩ = some (.int .i64 4) := HXw2.out.cell 0
    have c1 : w2.cell? ⟨w.heap.size, 1, none⟩ = some (.int .i64 e.k) := HXw2.out.cell 1
    have c2 : w2.cell? ⟨w.heap.size, 2, none⟩ = some (.int .i64 e.n) := HXw2.out.cell 2
    have c3 : w2.cell? ⟨w.heap.size, 3, none⟩ = some (.string e.nm) := HXw2.out.cell 3
    have c4 : w2.cell? ⟨w.heap.size, 4, none⟩ = some (.int .i64 e.vk) := HXw2.out.cell 4
    have c5 : w2.cell? ⟨w.heap.size, 5, none⟩ = some (.int .i64 e.vn) := HXw2.out.cell 5
    have c6 : w2.cell? ⟨w.heap.size, 6, none⟩ = some (.string e.vs) := HXw2.out.cell 6
    have c7 : w2.cell? ⟨w.heap.size, 7, none⟩ = some (.string a) := HXw2.out.cell 7
    have c8 : w2.cell? ⟨w.heap.size, 8, none⟩ = some (.bool v.ent) := HXw2.out.cell 8
    have c9 : w2.cell? ⟨w.heap.size, 9, none⟩ = some (.int .i64 v.vk) := HXw2.out.cell 9
    have c10 : w2.cell? ⟨w.heap.size, 10, none⟩ = some (.int .i64 v.vn) := HXw2.out.cell 10
    have c11 : w2.cell? ⟨w.heap.size, 11, none⟩ = some (.string v.vs) := HXw2.out.cell 11
    have c12 : w2.cell? ⟨w.heap.size, 12, none⟩ = some (.int .i64 v.e.k) := HXw2.out.cell 12
    have c13 : w2.cell? ⟨w.heap.size, 13, none⟩ = some (.int .i64 v.e.n) := HXw2.out.cell 13
    have c14 : w2.cell? ⟨w.heap.size, 14, none⟩ = some (.string v.e.nm) := HXw2.out.cell 14
    have c15 : w2.cell? ⟨w.heap.size, 15, none⟩ = some (.int .i64 v.e.vk) := HXw2.out.cell 15
    have c16 : w2.cell? ⟨w.heap.size, 16, none⟩ = some (.int .i64 v.e.vn) := HXw2.out.cell 16
    have c17 : w2.cell? ⟨w.heap.size, 17, none⟩ = some (.string v.e.vs) := HXw2.out.cell 17
    have c18 : w2.cell? ⟨w.heap.size, 18, none⟩ = some (.bool old.ent) := HXw2.out.cell 18
    have c19 : w2.cell? ⟨w.heap.size, 19, none⟩ = some (.int .i64 old.vk) := HXw2.out.cell 19
    have c20 : w2.cell? ⟨w.heap.size, 20, none⟩ = some (.int .i64 old.vn) := HXw2.out.cell 20
    have c21 : w2.cell? ⟨w.heap.size, 21, none⟩ = some (.string old.vs) := HXw2.out.cell 21
    have c22 : w2.cell? ⟨w.heap.size, 22, none⟩ = some (.int .i64 old.e.k) := HXw2.out.cell 22
    have c23 : w2.cell? ⟨w.heap.size, 23, none⟩ = some (.int .i64 old.e.n) := HXw2.out.cell 23
    have c24 : w2.cell? ⟨w.heap.size, 24, none⟩ = some (.string old.e.nm) := HXw2.out.cell 24
    have c25 : w2.cell? ⟨w.heap.size, 25, none⟩ = some (.int .i64 old.e.vk) := HXw2.out.cell 25
    have c26 : w2.cell? ⟨w.heap.size, 26, none⟩ = some (.int .i64 old.e.vn) := HXw2.out.cell 26
    have c27 : w2.cell? ⟨w.heap.size, 27, none⟩ = some (.string old.e.vs) := HXw2.out.cell 27
    have c28 : w2.cell? ⟨w.heap.size, 28, none⟩ = some (.int .i64 fr) := HXw2.out.cell 28
    have c29 : w2.cell? ⟨w.heap.size, 29, none⟩ = some (.int .i64 til) := HXw2.out.cell 29
    go_wp2_with fail
    refine (HA.out _).mono ?_
    rintro e w3 ⟨rfl, hb⟩
    have HXw3 := Lib.hid (HXw2.out.next hb HXw2.out.lt)
    have HBw3 := Lib.hid (HBw2.out.trans (hb.mono HBw2.out.size))
    clear hb
    clear c0 c1 c2 c3 c4 c5 c6 c7 c8 c9 c10 c11 c12 c13 c14 c15 c16 c17 c18 c19 c20 c21 c22 c23 c24 c25 c26 c27 c28 c29
    have c0 : w3.cell? ⟨w.heap.size, 0, none⟩ = some (.int .i64 4) := HXw3.out.cell 0
    have c1 : w3.cell? ⟨w.heap.size, 1, none⟩ = some (.int .i64 e.k) := HXw3.out.cell 1
    have c2 : w3.cell? ⟨w.heap.size, 2, none⟩ = some (.int .i64 e.n) := HXw3.out.cell 2
    have c3 : w3.cell? ⟨w.heap.size, 3, none⟩ = some (.string e.nm) := HXw3.out.cell 3
    have c4 : w3.cell? ⟨w.heap.size, 4, none⟩ = some (.int .i64 e.vk) := HXw3.out.cell 4
    have c5 : w3.cell? ⟨w.heap.size, 5, none⟩ = some (.int .i64 e.vn) := HXw3.out.cell 5
    have c6 : w3.cell? ⟨w.heap.size, 6, none⟩ = some (.string e.vs) := HXw3.out.cell 6
    have c7 : w3.cell? ⟨w.heap.size, 7, none⟩ = some (.string a) := HXw3.out.cell 7
    have c8 : w3.cell? ⟨w.heap.size, 8, none⟩ = some (.bool v.ent) := HXw3.out.cell 8
    have c9 : w3.cell? ⟨w.heap.size, 9, none⟩ = some (.int .i64 v.vk) := HXw3.out.cell 9
    have c10 : w3.cell? ⟨w.heap.size, 10, none⟩ = some (.int .i64 v.vn) := HXw3.out.cell 10
    have c11 : w3.cell? ⟨w.heap.size, 11, none⟩ = some (.string v.vs) := HXw3.out.cell 11
    have c12 : w3.cell? ⟨w.heap.size, 12, none⟩ = some (.int .i64 v.e.k) := HXw3.out.cell 12
    have c13 : w3.cell? ⟨w.heap.size, 13, none⟩ = some (.int .i64 v.e.n) := HXw3.out.cell 13
    have c14 : w3.cell? ⟨w.heap.size, 14, none⟩ = some (.string v.e.nm) := HXw3.out.cell 14
    have c15 : w3.cell? ⟨w.heap.size, 15, none⟩ = some (.int .i64 v.e.vk) := HXw3.out.cell 15
    have c16 : w3.cell? ⟨w.heap.size, 16, none⟩ = some (.int .i64 v.e.vn) := HXw3.out.cell 16
    have c17 : w3.cell? ⟨w.heap.size, 17, none⟩ = some (.string v.e.vs) := HXw3.out.cell 17
    have c18 : w3.cell? ⟨w.heap.size, 18, none⟩ = some (.bool old.ent) := HXw3.out.cell 18
    have c19 : w3.cell? ⟨w.heap.size, 19, none⟩ = some (.int .i64 old.vk) := HXw3.out.cell 19
    have c20 : w3.cell? ⟨w.heap.size, 20, none⟩ = some (.int .i64 old.vn) := HXw3.out.cell 20
    have c21 : w3.cell? ⟨w.heap.size, 21, none⟩ = some (.string old.vs) := HXw3.out.cell 21
    have c22 : w3.cell? ⟨w.heap.size, 22, none⟩ = some (.int .i64 old.e.k) := HXw3.out.cell 22
    have c23 : w3.cell? ⟨w.heap.size, 23, none⟩ = some (.int .i64 old.e.n) := HXw3.out.cell 23
    have c24 : w3.cell? ⟨w.heap.size, 24, none⟩ = some (.string old.e.nm) := HXw3.out.cell 24
    have c25 : w3.cell? ⟨w.heap.size, 25, none⟩ = some (.int .i64 old.e.vk) := HXw3.out.cell 25
    have c26 : w3.cell? ⟨w.heap.size, 26, none⟩ = some (.int .i64 old.e.vn) := HXw3.out.cell 26
    have c27 : w3.cell? ⟨w.heap.size, 27, none⟩ = some (.string old.e.vs) := HXw3.out.cell 27
    have c28 : w3.cell? ⟨w.heap.size, 28, none⟩ = some (.int .i64 fr) := HXw3.out.cell 28
    have c29 : w3.cell? ⟨w.heap.size, 29, none⟩ = some (.int .i64 til) := HXw3.out.cell 29
    go_wp2_with fail
    refine (HT.out _).mono ?_
    rintro e w4 ⟨rfl, hb⟩
    have HXw4 := Lib.hid (HXw3.out.next hb HXw3.out.lt)
    have HBw4 := Lib.hid (HBw3.out.trans (hb.mono HBw3.out.size))
    clear hb
    clear c0 c1 c2 c3 c4 c5 c6 c7 c8 c9 c10 c11 c12 c13 c14 c15 c16 c17 c18 c19 c20 c21 c22 c23 c24 c25 c26 c27 c28 c29
    have c0 : w4.cell? ⟨w.heap.size, 0, none⟩ = some (.int .i64 4) := HXw4.out.cell 0
    have c1 : w4.cell? ⟨w.heap.size, 1, none⟩ = some (.int .i64 e.k) := HXw4.out.cell 1
    have c2 : w4.cell? ⟨w.heap.size, 2, none⟩ = some (.int .i64 e.n) := HXw4.out.cell 2
    have c3 : w4.cell? ⟨w.heap.size, 3, none⟩ = some (.string e.nm) := HXw4.out.cell 3
    have c4 : w4.cell? ⟨w.heap.size, 4, none⟩ = some (.int .i64 e.vk) := HXw4.out.cell 4
    have c5 : w4.cell? ⟨w.heap.size, 5, none⟩ = some (.int .i64 e.vn) := HXw4.out.cell 5
    have c6 : w4.cell? ⟨w.heap.size, 6, none⟩ = some (.string e.vs) := HXw4.out.cell 6
    have c7 : w4.cell? ⟨w.heap.size, 7, none⟩ = some (.string a) := HXw4.out.cell 7
    have c8 : w4.cell? ⟨w.heap.size, 8, none⟩ = some (.bool v.ent) := HXw4.out.cell 8
    have c9 : w4.cell? ⟨w.heap.size, 9, none⟩ = some (.int .i64 v.vk) := HXw4.out.cell 9
    have c10 : w4.cell? ⟨w.heap.size, 10, none⟩ = some (.int .i64 v.vn) := HXw4.out.cell 10
    have c11 : w4.cell? ⟨w.heap.size, 11, none⟩ = some (.string v.vs) := HXw4.out.cell 11
    have c12 : w4.cell? ⟨w.heap.size, 12, none⟩ = some (.int .i64 v.e.k) := HXw4.out.cell 12
    have c13 : w4.cell? ⟨w.heap.size, 13, none⟩ = some (.int .i64 v.e.n) := HXw4.out.cell 13
    have c14 : w4.cell? ⟨w.heap.size, 14, none⟩ = some (.string v.e.nm) := HXw4.out.cell 14
    have c15 : w4.cell? ⟨w.heap.size, 15, none⟩ = some (.int .i64 v.e.vk) := HXw4.out.cell 15
    have c16 : w4.cell? ⟨w.heap.size, 16, none⟩ = some (.int .i64 v.e.vn) := HXw4.out.cell 16
    have c17 : w4.cell? ⟨w.heap.size, 17, none⟩ = some (.string v.e.vs) := HXw4.out.cell 17
    have c18 : w4.cell? ⟨w.heap.size, 18, none⟩ = some (.bool old.ent) := HXw4.out.cell 18
    have c19 : w4.cell? ⟨w.heap.size, 19, none⟩ = some (.int .i64 old.vk) := HXw4.out.cell 19
    have c20 : w4.cell? ⟨w.heap.size, 20, none⟩ = some (.int .i64 old.vn) := HXw4.out.cell 20
    have c21 : w4.cell? ⟨w.heap.size, 21, none⟩ = some (.string old.vs) := HXw4.out.cell 21
    have c22 : w4.cell? ⟨w.heap.size, 22, none⟩ = some (.int .i64 old.e.k) := HXw4.out.cell 22
    have c23 : w4.cell? ⟨w.heap.size, 23, none⟩ = some (.int .i64 old.e.n) := HXw4.out.cell 23
    have c24 : w4.cell? ⟨w.heap.size, 24, none⟩ = some (.string old.e.nm) := HXw4.out.cell 24
    have c25 : w4.cell? ⟨w.heap.size, 25, none⟩ = some (.int .i64 old.e.vk) := HXw4.out.cell 25
    have c26 : w4.cell? ⟨w.heap.size, 26, none⟩ = some (.int .i64 old.e.vn) := HXw4.out.cell 26
    have c27 : w4.cell? ⟨w.heap.size, 27, none⟩ = some (.string old.e.vs) := HXw4.out.cell 27
    have c28 : w4.cell? ⟨w.heap.size, 28, none⟩ = some (.int .i64 fr) := HXw4.out.cell 28
    have c29 : w4.cell? ⟨w.heap.size, 29, none⟩ = some (.int .i64 til) := HXw4.out.cell 29
    go_wp2_with fail
    refine (HO.out _).mono ?_
    rintro e w5 ⟨rfl, hb⟩
    have HXw5 := Lib.hid (HXw4.out.next hb HXw4.out.lt)
    have HBw5 := Lib.hid (HBw4.out.trans (hb.mono HBw4.out.size))
    clear hb
    clear c0 c1 c2 c3 c4 c5 c6 c7 c8 c9 c10 c11 c12 c13 c14 c15 c16 c17 c18 c19 c20 c21 c22 c23 c24 c25 c26 c27 c28 c29
    go_wp2
    go_ret
    exact ⟨rfl, HBw5.out⟩
/-- CONTRACT: the document's May. -/
theorem refFrm_any (f : Fm) (w : World) (hf : FmS f) :
    Calls Tryd.prog 9 #[.agg #[.int .i64 f.op, .int .i64 f.e.k, .int .i64 f.e.n, .string f.e.nm, .int .i64 f.e.vk, .int .i64 f.e.vn, .string f.e.vs, .string f.a, .bool f.v.ent, .int .i64 f.v.vk, .int .i64 f.v.vn, .string f.v.vs, .int .i64 f.v.e.k, .int .i64 f.v.e.n, .string f.v.e.nm, .int .i64 f.v.e.vk, .int .i64 f.v.e.vn, .string f.v.e.vs, .bool f.old.ent, .int .i64 f.old.vk, .int .i64 f.old.vn, .string f.old.vs, .int .i64 f.old.e.k, .int .i64 f.old.e.n, .string f.old.e.nm, .int .i64 f.old.e.vk, .int .i64 f.old.e.vn, .string f.old.e.vs, .int .i64 f.fr, .int .i64 f.til]] w fun e w' => e = .returned (.bool (formB f)) ∧ Below w.heap.size w w' := by
  obtain ⟨op, e, a, v, old, fr, til⟩ := f
  obtain ⟨ha, he, hv, ho⟩ := hf
  cases hb : entB e
  · exact refFrm_ent op e a v old fr til w hb he
  by_cases h : til ≤ fr
  · exact refFrm_late op e a v old fr til w hb he h
  by_cases h0 : op < 1
  · exact refFrm_low op e a v old fr til w hb he h h0
  by_cases h9 : 4 < op
  · exact refFrm_high op e a v old fr til w hb he h h0 h9
  by_cases h1 : op = 1
  · subst h1; exact refFrm_1 e a v old fr til w h hb he ha hv
  by_cases h2 : op = 2
  · subst h2; exact refFrm_2 e a v old fr til w h hb he ha hv
  by_cases h3 : op = 3
  · subst h3; exact refFrm_3 e a v old fr til w h hb he
  obtain rfl : op = 4 := by omega
  exact refFrm_4 e a v old fr til w h hb he ha hv ho

end Go.Proofs.YtdjdlfndmeegnaaDoor
