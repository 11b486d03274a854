/-
  CONTRACT: rows.Has.
-/
import Derived.Test.YtafnhhbdcleihaaZRen
import Derived.Test.YtafnhhbdcleihaaSorts
import Derived.Test.YtafnhhbdcleihaaZSortF
import Derived.Shelf.SlCmpFuncs.BinarySearchFunc
namespace Go.Proofs.Ytafnhhbdcleihaa
open Go.RowKit Go.Shelf Go.Sort

open Classical in
/-- is a row there? -/
noncomputable def hasB (T : List (List Vl)) (x : List Vl) : Bool := decide (x ∈ T)
open Classical in
theorem hasB_yes {T : List (List Vl)} {x : List Vl} (h : x ∈ T) : hasB T x = true := by unfold hasB; rw [decide_eq_true h]
open Classical in
theorem hasB_no {T : List (List Vl)} {x : List Vl} (h : x ∉ T) : hasB T x = false := by unfold hasB; rw [decide_eq_false h]
theorem grow_below (w : World) (n : Nat) (os : Array Obj) : Below w.heap.size w (grow (w.drewN n) os) := by
  refine ⟨rfl, rfl, rfl, ?_, fun j hj => ?_⟩
  · unfold grow
    show _ ≤ (w.heap ++ os).size
    rw [Array.size_append]; omega
  · unfold grow
    show (w.heap ++ os)[j]? = _
    rw [Array.getElem?_append_left hj]
open Classical in
/-- where rows rise: what stands ahead of a row -/
theorem find_spec {T : List (List Vl)} (x : List Vl) (hu : Ups ordR T) (n : Nat) (hn : T.countP (fun y => decide (ordR y x < 0)) = n) : hasB T x = true ↔ ∃ h : n < T.length, T[n] = x := by
  constructor
  · intro h
    have hm : x ∈ T := by unfold hasB at h; exact of_decide_eq_true h
    obtain ⟨k, hk, e⟩ := List.getElem_of_mem hm
    have hc : T.countP (fun y => decide (ordR y x < 0)) = k := by
      apply Go.Lib.countP_boundary _ _ _ (Nat.le_of_lt hk)
      · intro t ht
        rw [getElem!_pos T t (by omega), decide_eq_true_eq, ← e]
        exact List.pairwise_iff_getElem.1 hu t k (by omega) hk ht
      · intro t h1 h2
        rw [getElem!_pos T t h2, decide_eq_false_iff_not, ← e]
        by_cases ek : t = k
        · subst ek
          rw [(ordR_is.zero _ _).2 rfl]; omega
        · have h3 : ordR T[k] T[t] < 0 := List.pairwise_iff_getElem.1 hu k t hk h2 (by omega)
          have := ordR_is.swap T[k] T[t]
          omega
    have : n = k := hn.symm.trans hc
    subst this
    exact ⟨hk, e⟩
  · rintro ⟨h, e⟩
    exact hasB_yes (e ▸ List.getElem_mem h)
set_option maxRecDepth 100000 in
set_option maxHeartbeats 1000000 in
theorem findR_any (B g cap : Nat) (R : List Rw) (x : Rw) (w : World) (hr : Own1 30 cellR w B (.slice (some ⟨g, 0, none⟩) R.length cap) R) (hg : g < w.heap.size) (hok : ∀ r ∈ R, RwN w g r) (hx : RwN w g x) (h0 : 0 < R.length) (hl : R.length ≤ 1000000000000) (hu : Ups ordR (txR R)) :
    Calls Try.prog 62 #[.slice (some ⟨g, 0, none⟩) R.length cap, cellR x, .func (.func 12) #[] #[]] w fun e w' => (∃ k : Int, e = .returned (.tuple #[.int .i64 k, .bool (hasB (txR R) x.l)])) ∧ Below w.heap.size w w' := by
  have inst : Inhabited (RwS w g) := ⟨⟨R[0], hok _ (List.getElem_mem h0)⟩⟩
  obtain ⟨ls, hls⟩ : ∃ ls : List (RwS w g), ls.map (·.1) = R := sub_list hok
  have hln : R.length = ls.length := by rw [← hls, List.length_map]
  have eg : ∀ args w, (callFunc 12 args).run Try.prog w = .ok (.enter 12 args) w := enters_of Try.func12 (by kernel_rfl) rfl
  have hr2 : w.ownsRow B 30 1 (.slice (some ⟨g, 0, none⟩) R.length cap) R.length (R.map cellR) := hr
  have hH : Holds (fun x : RwS w g => cellR x.1) w g 0 ls.toArray := fun j hj => by
    have hj2 : j < ls.length := by simpa using hj
    have hj3 : j < R.length := by omega
    rw [Nat.zero_add]
    refine ⟨?_, hr2.frozenAt j⟩
    rw [hr2.cellAt j (by omega), List.getElem?_map, ← hls, List.getElem?_map, List.getElem?_eq_getElem hj2, getElem!_pos ls.toArray j hj]
    rfl
  have hC : CmpLaysT Try.prog 12 #[] (fun y : RwS w g => cellR y.1) (cellR x) (fun y : RwS w g => ordR y.1.l x.l) g 0 ls.toArray.size w := fun m os dk _ y =>
    cmpR_grow y.1 x _ (y.2.keep swKp).ok (hx.keep swKp).ok
  have hT : txR R = ls.map (fun y => y.1.l) := by rw [← hls]; unfold txR; rw [List.map_map]; rfl
  have hgT : ∀ i (hi : i < ls.length), (txR R)[i]'(by rw [txR_len, hln]; exact hi) = (ls.toArray[i]!).1.l := fun i hi => by
    rw [getElem!_pos ls.toArray i (by simpa using hi)]
    simp [hT]
  have hcon := Any.slices_BinarySearchFunc Try.bsRow (fun y : RwS w g => cellR y.1) (fun _ => rfl) (cellR x) (fun y : RwS w g => ordR y.1.l x.l) 12 #[] g 0 cap ls.toArray w eg hC hH hg (by simp; omega) (fun a b hab hb h => by
    have hb2 : b < ls.length := by simpa using hb
    rw [← hgT b hb2] at h
    rw [← hgT a (by omega)]
    by_cases e : a = b
    · subst e; exact h
    · have h3 := List.pairwise_iff_getElem.1 hu a b (by rw [txR_len]; omega) (by rw [txR_len]; omega) (by omega)
      exact ordR_is.lt h3 (by omega))
  have hsa : ls.toArray.size = R.length := by simp; omega
  rw [hsa] at hcon
  refine (show Calls Try.prog 62 _ w _ from hcon).mono ?_
  rintro e w2 ⟨rfl, nn, os, rfl⟩
  have hcnt : ls.toArray.toList.countP (fun y : RwS w g => decide (ordR y.1.l x.l < 0)) = (txR R).countP (fun y => decide (ordR y x.l < 0)) := by
    rw [hT, List.countP_map]; rfl
  obtain ⟨n, hn⟩ : ∃ n, ls.toArray.toList.countP (fun y : RwS w g => decide (ordR y.1.l x.l < 0)) = n := ⟨_, rfl⟩
  rw [hn]
  refine ⟨⟨(n : Int), ?_⟩, ?_⟩
  · have hfs := find_spec x.l hu n (hcnt.symm.trans hn)
    have hval : (decide (n < R.length) && decide (ordR (ls.toArray[n]!).1.l x.l = 0)) = hasB (txR R) x.l := by
      rw [Bool.eq_iff_iff, hfs, Bool.and_eq_true, decide_eq_true_eq, decide_eq_true_eq]
      constructor
      · rintro ⟨h1, h2⟩
        refine ⟨by rw [txR_len]; exact h1, ?_⟩
        rw [hgT n (by omega)]
        exact (ordR_is.zero _ _).1 h2
      · rintro ⟨h1, h2⟩
        have h1' : n < R.length := by rw [txR_len] at h1; exact h1
        refine ⟨h1', ?_⟩
        rw [← hgT n (by omega), h2]
        exact (ordR_is.zero _ _).2 rfl
    rw [hval]
  · have e1 := sortWorld_grown_c (fun y : RwS w g => cellR y.1) w g 0 0 nn ls.toArray #[] os
    rw [sortWorld_start _ w g 0 ls.toArray hH] at e1
    rw [show sortWorld (fun y : RwS w g => cellR y.1) w g 0 nn ls.toArray os = grow (w.drewN nn) os from by rw [e1]; simp]
    exact grow_below w nn os
set_option maxHeartbeats 1000000 in
theorem findR_nil (A : Option Addr) (cap : Nat) (x : Rw) (w : World) :
    Calls Try.prog 62 #[.slice A 0 cap, cellR x, .func (.func 12) #[] #[]] w fun e w' => e = .returned (.tuple #[.int .i64 0, .bool false]) ∧ w' = w := by
  obtain ⟨A1, c1, l⟩ := x
  unfold cellR
  go_enter Try.func62, Try.ntmps62
  go_wp2
  refine wp_loop_rounds 1 ?_
  rw [rounds_succ]
  go_wp2
  go_ret2
  exact ⟨rfl, rfl⟩
set_option maxRecDepth 100000 in
theorem find_any (B : Nat) (v : Value) (R : List Rw) (x : Rw) (w : World) (hr : Own1 30 cellR w B v R) (hok : ∀ g, (∃ n c, v = .slice (some ⟨g, 0, none⟩) n c) → (∀ r ∈ R, RwN w g r) ∧ RwN w g x) (hl : R.length ≤ 1000000000000) (hu : Ups ordR (txR R)) :
    Calls Try.prog 62 #[v, cellR x, .func (.func 12) #[] #[]] w fun e w' => (∃ k : Int, e = .returned (.tuple #[.int .i64 k, .bool (hasB (txR R) x.l)])) ∧ Below w.heap.size w w' := by
  obtain ⟨A, c, rfl, hs, hlc, hcm, hn, hg⟩ := hr.form
  by_cases h0 : R.length = 0
  · obtain rfl : R = [] := List.length_eq_zero_iff.1 h0
    refine (findR_nil A c x w).mono ?_
    rintro e w' ⟨rfl, rfl⟩
    exact ⟨⟨0, by rw [hasB_no (by simp [txR])]⟩, Below.refl _ _⟩
  · obtain ⟨g, o, rfl, _⟩ := hs (fun e => h0 (by rw [e]; rfl))
    obtain ⟨g1, e1, hBg, hgw⟩ := hg _ rfl
    obtain ⟨rfl, rfl⟩ : g1 = g ∧ o = 0 := by injection e1 with a b; exact ⟨a.symm, b⟩
    obtain ⟨h1, h2⟩ := hok g1 ⟨_, _, rfl⟩
    exact findR_any B g1 c R x w hr hgw h1 h2 (by omega) hl hu
theorem mayRel_ups {cols : List ByteArray} {R : List Rw} (h : mayRel cols R = true) : Ups ordR (txR R) := by
  unfold mayRel at h
  rw [Bool.and_eq_true] at h
  exact upsB_iff.1 h.2
/-- what Has says -/
noncomputable def hasRel (cols0 : List ByteArray) (R : List Rw) (x : List Vl) : Bool := mayRel cols0 R && hasB (txR R) x
set_option maxRecDepth 100000 in
set_option maxHeartbeats 2000000 in
theorem has_any (A0 : Option Addr) (c0 : Nat) (cols0 : List ByteArray) (B : Nat) (A1 : Option Addr) (c1 : Nat) (R : List Rw) (x : Rw) (w : World) (hc0 : SlC w w.heap.size A0 cols0) (hR : OwnR w B (.slice A1 R.length c1) R) (hx : RwOk w B x) (hB : B ≤ w.heap.size)
    (hcc0 : cols0.length ≤ c0) (hl0 : cols0.length ≤ 1000000000) (hl1 : R.length ≤ 1000000000) :
    Calls Try.prog 27 #[.agg #[.slice A0 cols0.length c0, .slice A1 R.length c1], cellR x] w fun e w' => e = .returned (.bool (hasRel cols0 R x.l)) ∧ Below w.heap.size w w' := by
  have HC0 := Lib.hid hc0
  have HR := Lib.hid hR
  have HX := Lib.hid hx
  have HBB := Lib.hid hB
  clear hc0 hR hx hB
  obtain ⟨w0, hw0⟩ : ∃ w0, w.alloc (.cells #[.slice A0 cols0.length c0, .slice A1 R.length c1] 26) = w0 := ⟨_, rfl⟩
  have hb0 : Below w.heap.size w w0 := by rw [← hw0]; exact (Below.refl _ _).alloc (Nat.le_refl _) _
  have ya0 : w0.cell? ⟨w.heap.size, 0, none⟩ = some (.slice A0 cols0.length c0) := by rw [← hw0, World.cell?_alloc_new]; rfl
  have ya1 : w0.cell? ⟨w.heap.size, 1, none⟩ = some (.slice A1 R.length c1) := by rw [← hw0, World.cell?_alloc_new]; rfl
  have hlt : w.heap.size < w0.heap.size := by rw [← hw0]; simp
  have HLT := Lib.hid hlt
  have HB0 := Lib.hid hb0
  have HRS : Hid (SlR w w.heap.size A1 R) := by
    obtain ⟨A', c', e, hs, _⟩ := HR.out.form
    injection e with e1 e2 e3
    subst e1; exact hs
  have HM := Lib.hid (may_any A0 c0 cols0 A1 c1 R w0 (HC0.out.up hb0 (Nat.le_refl _)) (HRS.out.up hb0 (Nat.le_refl _)) hcc0 hl0 hl1)
  clear hlt hb0
  by_cases q1 : mayRel cols0 R = true
  · have HE : Hid (hasRel cols0 R x.l = hasB (txR R) x.l) := by show _ = _; unfold hasRel; rw [q1]; rfl
    have HU := Lib.hid (mayRel_ups q1)
    rw [q1] at HM
    clear q1
    have HF := Lib.hid (fun W (hb : Below w.heap.size w W) => find_any B (.slice A1 R.length c1) R x W (HR.out.next hb).o (fun g hg => ⟨ownR_rwN (HR.out.next hb) g hg, ⟨(HX.out.more HBB.out).up hb (Nat.le_refl _), fun hne b o e => by
      obtain ⟨b', o', e', hlt', _⟩ := HX.out.s hne
      rw [e] at e'
      injection e' with e'
      injection e' with e' _
      obtain ⟨n, c, e2⟩ := hg
      injection e2 with e2
      obtain ⟨_, _, e3, _, _, _, _, hgg⟩ := HR.out.form
      injection e3 with e3
      obtain ⟨g', eg', hgB, _⟩ := hgg _ (e3.symm.trans e2)
      injection eg' with eg'
      omega⟩⟩) (by omega) HU.out)
    obtain ⟨A2, c2, l2⟩ := x
    unfold cellR at HF ⊢
    simp only at HF HE ⊢
    obtain ⟨q, hq⟩ : ∃ q, hasB (txR R) l2 = q := ⟨_, rfl⟩
    rw [hq] at HF HE
    clear hq HX HC0
    go_enter Try.func27, Try.ntmps27
    go_wp2_with fail
    refine HM.out.mono ?_
    rintro e w1 ⟨rfl, hb1⟩
    have x1 := (hb1.cell (p := ⟨w.heap.size, 1, none⟩) HLT.out).trans ya1
    have HB1 := Lib.hid (HB0.out.trans (hb1.mono HB0.out.size))
    clear hb1 ya0 ya1 hw0 HM
    go_wp2_with fail
    refine (HF.out w1 HB1.out).mono ?_
    rintro e w2 ⟨⟨k, rfl⟩, hb2⟩
    have HB2 := Lib.hid (HB1.out.trans (hb2.mono HB1.out.size))
    clear hb2 x1
    go_wp2
    go_ret
    exact ⟨ret_bool (by rw [HE.out]), HB2.out⟩
  · rw [Bool.not_eq_true] at q1
    have HE : Hid (hasRel cols0 R x.l = false) := by show _ = _; unfold hasRel; rw [q1]; rfl
    rw [q1] at HM
    obtain ⟨A2, c2, l2⟩ := x
    unfold cellR
    simp only at HE ⊢
    clear q1 HX HC0
    go_enter Try.func27, Try.ntmps27
    go_wp2_with fail
    refine HM.out.mono ?_
    rintro e w1 ⟨rfl, hb1⟩
    have HB1 := Lib.hid (HB0.out.trans (hb1.mono HB0.out.size))
    clear hb1 ya0 ya1 hw0 HM
    go_wp2
    go_ret
    exact ⟨ret_bool (by rw [HE.out]), HB1.out⟩
end Go.Proofs.Ytafnhhbdcleihaa
