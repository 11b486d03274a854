/-
  CONTRACT: the document's term.
-/
import Derived.Test.YtdjdlfndmeegnaaDoorKRefE
import Derived.Test.YtdjdlfndmeegnaaDoorKTerm
namespace Go.Proofs.YtdjdlfndmeegnaaDoor
open Go.RowKit

set_option maxRecDepth 100000 in
set_option maxHeartbeats 1000000 in
theorem refTrm_t (vk vn : Int) (vs : ByteArray) (e : En) (w : World) (he : EnS e) :
    Calls Tryd.prog 26 #[.agg #[.bool true, .int .i64 vk, .int .i64 vn, .string vs, .int .i64 e.k, .int .i64 e.n, .string e.nm, .int .i64 e.vk, .int .i64 e.vn, .string e.vs]] w fun e' w' => e' = .returned (.bool (termB ⟨true, vk, vn, vs, e⟩)) ∧ Below w.heap.size w w' := by
  rw [trm_t]
  have hq := fun W => eqlV vk vn vs 0 0 eB W
  have HV := Lib.hid (fun W => refEnt_any e W he)
  obtain ⟨m, hm⟩ : ∃ m, entB e = m := ⟨_, rfl⟩
  obtain ⟨q, hq0⟩ : ∃ q, sameV vk vn vs 0 0 eB = q := ⟨_, rfl⟩
  rw [hm] at HV ⊢
  rw [hq0] at hq ⊢
  simp only [eB] at hq
  clear hm hq0
  have HXs : Hid (Blk (w.alloc (.cells #[.bool true, .int .i64 vk, .int .i64 vn, .string vs, .int .i64 e.k, .int .i64 e.n, .string e.nm, .int .i64 e.vk, .int .i64 e.vn, .string e.vs] 27)) w.heap.size #[.bool true, .int .i64 vk, .int .i64 vn, .string vs, .int .i64 e.k, .int .i64 e.n, .string e.nm, .int .i64 e.vk, .int .i64 e.vn, .string e.vs] 27) := Blk.new _ _ _
  have HBs : Hid (Below w.heap.size w (w.alloc (.cells #[.bool true, .int .i64 vk, .int .i64 vn, .string vs, .int .i64 e.k, .int .i64 e.n, .string e.nm, .int .i64 e.vk, .int .i64 e.vn, .string e.vs] 27))) := (Below.refl _ _).alloc (Nat.le_refl _) _
  cases m
  all_goals
    go_enter Tryd.func26, Tryd.ntmps26
    go_wp2_with fail
    refine (HV.out _).mono ?_
    rintro e w2 ⟨rfl, hb⟩
    have HXw2 := Lib.hid (HXs.out.next hb HXs.out.lt)
    have HBw2 := Lib.hid (HBs.out.trans (hb.mono HBs.out.size))
    clear hb
    have c0 : w2.cell? ⟨w.heap.size, 0, none⟩ = some (.bool true) := HXw2.out.cell 0
    have c1 : w2.cell? ⟨w.heap.size, 1, none⟩ = some (.int .i64 vk) := HXw2.out.cell 1
    have c2 : w2.cell? ⟨w.heap.size, 2, none⟩ = some (.int .i64 vn) := HXw2.out.cell 2
    have c3 : w2.cell? ⟨w.heap.size, 3, none⟩ = some (.string vs) := HXw2.out.cell 3
    have c4 : w2.cell? ⟨w.heap.size, 4, none⟩ = some (.int .i64 e.k) := HXw2.out.cell 4
    have c5 : w2.cell? ⟨w.heap.size, 5, none⟩ = some (.int .i64 e.n) := HXw2.out.cell 5
    have c6 : w2.cell? ⟨w.heap.size, 6, none⟩ = some (.string e.nm) := HXw2.out.cell 6
    have c7 : w2.cell? ⟨w.heap.size, 7, none⟩ = some (.int .i64 e.vk) := HXw2.out.cell 7
    have c8 : w2.cell? ⟨w.heap.size, 8, none⟩ = some (.int .i64 e.vn) := HXw2.out.cell 8
    have c9 : w2.cell? ⟨w.heap.size, 9, none⟩ = some (.string e.vs) := HXw2.out.cell 9
    go_wp2
    go_ret
    exact ⟨rfl, HBw2.out⟩

set_option maxRecDepth 100000 in
set_option maxHeartbeats 1000000 in
theorem refTrm_f (vk vn : Int) (vs : ByteArray) (e : En) (w : World) (hv : vs.size ≤ 1100) :
    Calls Tryd.prog 26 #[.agg #[.bool false, .int .i64 vk, .int .i64 vn, .string vs, .int .i64 e.k, .int .i64 e.n, .string e.nm, .int .i64 e.vk, .int .i64 e.vn, .string e.vs]] w fun e' w' => e' = .returned (.bool (termB ⟨false, vk, vn, vs, e⟩)) ∧ Below w.heap.size w w' := by
  rw [trm_f]
  have hq := fun W => eqlE e zE W
  have HV := Lib.hid (fun W => refMay_any vk vn vs W (leN hv))
  obtain ⟨m, hm⟩ : ∃ m, mayB vk vn vs = m := ⟨_, rfl⟩
  obtain ⟨q, hq0⟩ : ∃ q, sameE e zE = q := ⟨_, rfl⟩
  obtain ⟨u, hu⟩ : ∃ u, (vk != 5) = u := ⟨_, rfl⟩
  rw [hm] at HV ⊢
  rw [hq0] at hq ⊢
  rw [hu]
  simp only [zE, eB] at hq
  clear hm hq0
  have HXs : Hid (Blk (w.alloc (.cells #[.bool false, .int .i64 vk, .int .i64 vn, .string vs, .int .i64 e.k, .int .i64 e.n, .string e.nm, .int .i64 e.vk, .int .i64 e.vn, .string e.vs] 27)) w.heap.size #[.bool false, .int .i64 vk, .int .i64 vn, .string vs, .int .i64 e.k, .int .i64 e.n, .string e.nm, .int .i64 e.vk, .int .i64 e.vn, .string e.vs] 27) := Blk.new _ _ _
  have HBs : Hid (Below w.heap.size w (w.alloc (.cells #[.bool false, .int .i64 vk, .int .i64 vn, .string vs, .int .i64 e.k, .int .i64 e.n, .string e.nm, .int .i64 e.vk, .int .i64 e.vn, .string e.vs] 27))) := (Below.refl _ _).alloc (Nat.le_refl _) _
  cases m
  · go_enter Tryd.func26, Tryd.ntmps26
    go_wp2_with fail
    refine (HV.out _).mono ?_
    rintro e w2 ⟨rfl, hb⟩
    have HXw2 := Lib.hid (HXs.out.next hb HXs.out.lt)
    have HBw2 := Lib.hid (HBs.out.trans (hb.mono HBs.out.size))
    clear hb
    have c0 : w2.cell? ⟨w.heap.size, 0, none⟩ = some (.bool false) := HXw2.out.cell 0
    have c1 : w2.cell? ⟨w.heap.size, 1, none⟩ = some (.int .i64 vk) := HXw2.out.cell 1
    have c2 : w2.cell? ⟨w.heap.size, 2, none⟩ = some (.int .i64 vn) := HXw2.out.cell 2
    have c3 : w2.cell? ⟨w.heap.size, 3, none⟩ = some (.string vs) := HXw2.out.cell 3
    have c4 : w2.cell? ⟨w.heap.size, 4, none⟩ = some (.int .i64 e.k) := HXw2.out.cell 4
    have c5 : w2.cell? ⟨w.heap.size, 5, none⟩ = some (.int .i64 e.n) := HXw2.out.cell 5
    have c6 : w2.cell? ⟨w.heap.size, 6, none⟩ = some (.string e.nm) := HXw2.out.cell 6
    have c7 : w2.cell? ⟨w.heap.size, 7, none⟩ = some (.int .i64 e.vk) := HXw2.out.cell 7
    have c8 : w2.cell? ⟨w.heap.size, 8, none⟩ = some (.int .i64 e.vn) := HXw2.out.cell 8
    have c9 : w2.cell? ⟨w.heap.size, 9, none⟩ = some (.string e.vs) := HXw2.out.cell 9
    go_wp2
    go_ret
    exact ⟨rfl, HBw2.out⟩
  · cases u
    all_goals
      go_enter Tryd.func26, Tryd.ntmps26
      go_wp2_with fail
      refine (HV.out _).mono ?_
      rintro e w2 ⟨rfl, hb⟩
      have HXw2 := Lib.hid (HXs.out.next hb HXs.out.lt)
      have HBw2 := Lib.hid (HBs.out.trans (hb.mono HBs.out.size))
      clear hb
      have c0 : w2.cell? ⟨w.heap.size, 0, none⟩ = some (.bool false) := HXw2.out.cell 0
      have c1 : w2.cell? ⟨w.heap.size, 1, none⟩ = some (.int .i64 vk) := HXw2.out.cell 1
      have c2 : w2.cell? ⟨w.heap.size, 2, none⟩ = some (.int .i64 vn) := HXw2.out.cell 2
      have c3 : w2.cell? ⟨w.heap.size, 3, none⟩ = some (.string vs) := HXw2.out.cell 3
      have c4 : w2.cell? ⟨w.heap.size, 4, none⟩ = some (.int .i64 e.k) := HXw2.out.cell 4
      have c5 : w2.cell? ⟨w.heap.size, 5, none⟩ = some (.int .i64 e.n) := HXw2.out.cell 5
      have c6 : w2.cell? ⟨w.heap.size, 6, none⟩ = some (.string e.nm) := HXw2.out.cell 6
      have c7 : w2.cell? ⟨w.heap.size, 7, none⟩ = some (.int .i64 e.vk) := HXw2.out.cell 7
      have c8 : w2.cell? ⟨w.heap.size, 8, none⟩ = some (.int .i64 e.vn) := HXw2.out.cell 8
      have c9 : w2.cell? ⟨w.heap.size, 9, none⟩ = some (.string e.vs) := HXw2.out.cell 9
      go_wp2
      go_ret
      exact ⟨rfl, HBw2.out⟩
/-- CONTRACT: the document's term. -/
theorem refTrm_any (t : Tm) (w : World) (ht : TmS t) :
    Calls Tryd.prog 26 #[.agg #[.bool t.ent, .int .i64 t.vk, .int .i64 t.vn, .string t.vs, .int .i64 t.e.k, .int .i64 t.e.n, .string t.e.nm, .int .i64 t.e.vk, .int .i64 t.e.vn, .string t.e.vs]] w fun e w' => e = .returned (.bool (termB t)) ∧ Below w.heap.size w w' := by
  obtain ⟨ent, vk, vn, vs, e⟩ := t
  cases ent
  · exact refTrm_f vk vn vs e w ht.1
  · exact refTrm_t vk vn vs e w ht.2

end Go.Proofs.YtdjdlfndmeegnaaDoor
