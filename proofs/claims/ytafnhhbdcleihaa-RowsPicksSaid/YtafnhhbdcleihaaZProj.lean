/-
  CONTRACT: rows.Project.
-/
import Derived.Test.YtafnhhbdcleihaaZRel
namespace Go.Proofs.Ytafnhhbdcleihaa
open Go.RowKit

/-- what Project says of its error -/
noncomputable def projC (cols0 : List ByteArray) (R : List Rw) (cols : List ByteArray) : Int := if mayRel cols0 R = true ∧ colsB cols = true ∧ inB cols cols0 = true then 0 else 2
/-- the rows that Project answers -/
noncomputable def projT (cols0 : List ByteArray) (R : List Rw) (cols : List ByteArray) : List (List Vl) := putsG ordR ((txR R).map (pickV (plN cols cols0)))
theorem mayRel_long {cols : List ByteArray} {R : List Rw} (h : mayRel cols R = true) : longB cols.length R = true := by
  unfold mayRel at h
  rw [Bool.and_eq_true, Bool.and_eq_true] at h
  exact h.1.2
theorem longB_all {n : Nat} {R : List Rw} (h : longB n R = true) : ∀ r ∈ R, r.l.length = n := fun r hr => by
  unfold longB at h
  rw [List.all_eq_true] at h
  simpa using h r hr
theorem zOk_pick {I : List Nat} {l : List Vl} (hz : zOk l) (hi : ∀ i ∈ I, i < l.length) : zOk (pickV I l) := fun v hv => by
  unfold pickV at hv
  obtain ⟨i, hm, rfl⟩ := List.mem_map.1 hv
  rw [getElem!_pos l i (hi i hm)]
  exact hz _ (List.getElem_mem _)
/-- two blocks that a call makes at first: its relation, its answer -/
structure Two (w w0 : World) (v0 v1 : Value) : Prop where
  b : Below w.heap.size w w0
  a0 : w0.cell? ⟨w.heap.size, 0, none⟩ = some v0
  a1 : w0.cell? ⟨w.heap.size, 1, none⟩ = some v1
  c0 : w0.cell? ⟨w.heap.size + 1, 0, none⟩ = some (.slice none 0 0)
  c1 : w0.cell? ⟨w.heap.size + 1, 1, none⟩ = some (.slice none 0 0)
  f0 : w0.frozen? ⟨w.heap.size + 1, 0, none⟩ = false
  f1 : w0.frozen? ⟨w.heap.size + 1, 1, none⟩ = false
  lt : w.heap.size + 1 < w0.heap.size
theorem two_new (w : World) (v0 v1 : Value) (t : TypeId) : Two w ((w.alloc (.cells #[v0, v1] t)).alloc (.cells #[.slice none 0 0, .slice none 0 0] t)) v0 v1 := by
  have hs : (w.alloc (.cells #[v0, v1] t)).heap.size = w.heap.size + 1 := by simp
  have hb1 : Below w.heap.size w (w.alloc (.cells #[v0, v1] t)) := (Below.refl _ _).alloc (Nat.le_refl _) _
  have hb2 : Below (w.heap.size + 1) (w.alloc (.cells #[v0, v1] t)) ((w.alloc (.cells #[v0, v1] t)).alloc (.cells #[.slice none 0 0, .slice none 0 0] t)) := by
    rw [← hs]; exact (Below.refl _ _).alloc (Nat.le_refl _) _
  have hn : ∀ i, ((w.alloc (.cells #[v0, v1] t)).alloc (.cells #[.slice none 0 0, .slice none 0 0] t)).cell? ⟨w.heap.size + 1, i, none⟩ = #[Value.slice none 0 0, .slice none 0 0][i]? := fun i => by
    rw [← hs, World.cell?_alloc_new]
  have hf : ∀ i, ((w.alloc (.cells #[v0, v1] t)).alloc (.cells #[.slice none 0 0, .slice none 0 0] t)).frozen? ⟨w.heap.size + 1, i, none⟩ = false := fun i => by
    rw [← hs]; simp
  refine ⟨hb1.trans (hb2.mono (by omega)), ?_, ?_, hn 0, hn 1, hf 0, hf 1, by simp⟩
  · rw [hb2.cell (p := ⟨w.heap.size, 0, none⟩) (by show w.heap.size < _; omega), World.cell?_alloc_new]; rfl
  · rw [hb2.cell (p := ⟨w.heap.size, 1, none⟩) (by show w.heap.size < _; omega), World.cell?_alloc_new]; rfl
theorem Two.next {w w0 w1 : World} {v0 v1 : Value} (h : Two w w0 v0 v1) (hb : Below w0.heap.size w0 w1) : Two w w1 v0 v1 := by
  have hl := h.lt
  exact ⟨h.b.trans (hb.mono h.b.size), (hb.cell (p := ⟨w.heap.size, 0, none⟩) (by show w.heap.size < _; omega)).trans h.a0, (hb.cell (p := ⟨w.heap.size, 1, none⟩) (by show w.heap.size < _; omega)).trans h.a1, (hb.cell (p := ⟨w.heap.size + 1, 0, none⟩) hl).trans h.c0, (hb.cell (p := ⟨w.heap.size + 1, 1, none⟩) hl).trans h.c1, (hb.frozen (p := ⟨w.heap.size + 1, 0, none⟩) hl).trans h.f0, (hb.frozen (p := ⟨w.heap.size + 1, 1, none⟩) hl).trans h.f1, Nat.lt_of_lt_of_le hl hb.size⟩
theorem Two.keep {w w0 w1 : World} {v0 v1 : Value} (h : Two w w0 v0 v1) (hb : Below (w.heap.size + 2) w0 w1) : Two w w1 v0 v1 := by
  have hl := h.lt
  exact ⟨h.b.trans (hb.mono (by omega)), (hb.cell (p := ⟨w.heap.size, 0, none⟩) (by show w.heap.size < _; omega)).trans h.a0, (hb.cell (p := ⟨w.heap.size, 1, none⟩) (by show w.heap.size < _; omega)).trans h.a1, (hb.cell (p := ⟨w.heap.size + 1, 0, none⟩) (by show w.heap.size + 1 < _; omega)).trans h.c0, (hb.cell (p := ⟨w.heap.size + 1, 1, none⟩) (by show w.heap.size + 1 < _; omega)).trans h.c1, (hb.frozen (p := ⟨w.heap.size + 1, 0, none⟩) (by show w.heap.size + 1 < _; omega)).trans h.f0, (hb.frozen (p := ⟨w.heap.size + 1, 1, none⟩) (by show w.heap.size + 1 < _; omega)).trans h.f1, Nat.lt_of_lt_of_le hl hb.size⟩
theorem Two.set {w w0 : World} {v0 v1 : Value} (h : Two w w0 v0 v1) (u0 u1 : Value) : Below w.heap.size w ((w0.setCell ⟨w.heap.size + 1, 0, none⟩ u0).setCell ⟨w.heap.size + 1, 1, none⟩ u1) :=
  (h.b.setCell (p := ⟨w.heap.size + 1, 0, none⟩) (Nat.le_succ _) _).setCell (p := ⟨w.heap.size + 1, 1, none⟩) (Nat.le_succ _) _
/-- a relation that is answered at the second of the two -/
theorem Two.rel {w w0 : World} {v0 v1 : Value} (h : Two w w0 v0 v1) {A5 A6 : Option Addr} {c5 c6 : Nat} {cols : List ByteArray} {R : List Rw} {T : List (List Vl)} (hc : OwnC w0 (w.heap.size + 2) (.slice A5 cols.length c5) cols) (hr : AnsR w0 (w.heap.size + 2) (.slice A6 R.length c6) R) (hB : ∀ a, A6 = some a → w.heap.size + 2 ≤ a.block)
    (hap : ∀ b1 b2 n1 k1 n2 k2, (.slice A5 cols.length c5 : Value) = .slice (some b1) n1 k1 → (.slice A6 R.length c6 : Value) = .slice (some b2) n2 k2 → b1.block ≠ b2.block) (ht : txR R = T) :
    RelEnd w cols T 0 (.returned (.tuple #[.agg #[.slice A5 cols.length c5, .slice A6 R.length c6], .int .i64 0])) ((w0.setCell ⟨w.heap.size + 1, 0, none⟩ (.slice A5 cols.length c5)).setCell ⟨w.heap.size + 1, 1, none⟩ (.slice A6 R.length c6)) := by
  refine ⟨h.set _ _, _, _, cols, R, rfl, ?_, ?_, hap, (fun a n c e => by injection e with e; have := hB a e; omega), by rw [if_pos rfl], by rw [if_pos rfl]; exact ht⟩
  · exact owns_low (owns_set (owns_set hc (by omega) _ _) (by omega) _ _) (by omega : w.heap.size ≤ w.heap.size + 2)
  · have hBB : ∀ (A : Addr) (n c : Nat), (.slice A6 R.length c6 : Value) = .slice (some A) n c → w.heap.size + 2 ≤ A.block := fun A n c e => by injection e with e; exact hB A e
    exact ((hr.set (by omega) hBB 0 _).set (by omega) hBB 1 _).low (by omega)

set_option maxRecDepth 100000 in
set_option maxHeartbeats 4000000 in
theorem project_any (A0 : Option Addr) (c0 : Nat) (cols0 : List ByteArray) (A1 : Option Addr) (c1 : Nat) (R : List Rw) (A : Option Addr) (c : Nat) (cols : List ByteArray) (w : World) (hc0 : SlC w w.heap.size A0 cols0) (hR : SlR w w.heap.size A1 R) (hc : SlC w w.heap.size A cols)
    (hn : A = none → cols.length = 0 ∧ c = 0) (hcc : cols.length ≤ c) (hcc0 : cols0.length ≤ c0) (hl0 : cols0.length ≤ 1000000000) (hl1 : R.length ≤ 1000000000) (hl : cols.length ≤ 1000000000) :
    Calls Try.prog 18 #[.agg #[.slice A0 cols0.length c0, .slice A1 R.length c1], .slice A cols.length c] w (RelEnd w cols (projT cols0 R cols) (projC cols0 R cols)) := by
  have HC0 := Lib.hid hc0
  have HR := Lib.hid hR
  have HC := Lib.hid hc
  have HN := Lib.hid hn
  clear hc0 hR hc hn
  obtain ⟨w0, hw0⟩ : ∃ w0, (w.alloc (.cells #[.slice A0 cols0.length c0, .slice A1 R.length c1] 26)).alloc (.cells #[.slice none 0 0, .slice none 0 0] 26) = w0 := ⟨_, rfl⟩
  have htw : Two w w0 (.slice A0 cols0.length c0) (.slice A1 R.length c1) := by rw [← hw0]; exact two_new _ _ _ _
  have HM := Lib.hid (may_any A0 c0 cols0 A1 c1 R w0 (HC0.out.up htw.b (Nat.le_refl _)) (HR.out.up htw.b (Nat.le_refl _)) hcc0 hl0 hl1)
  have HT0 := Lib.hid htw
  obtain ⟨ya0, ya1, yc0, yc1, yf0, yf1⟩ : _ ∧ _ ∧ _ ∧ _ ∧ _ ∧ _ := ⟨htw.a0, htw.a1, htw.c0, htw.c1, htw.f0, htw.f1⟩
  have hs1 : (w.alloc (.cells #[.slice A0 cols0.length c0, .slice A1 R.length c1] 26)).heap.size = w.heap.size + 1 := by simp
  clear htw
  by_cases q1 : mayRel cols0 R = true
  · have HQ1 := Lib.hid q1
    rw [q1] at HM
    clear q1
    go_enter Try.func18, Try.ntmps18
    go_wp2_with fail
    refine HM.out.mono ?_
    rintro e w1 ⟨rfl, hb1⟩
    have HT1 := Lib.hid (HT0.out.next hb1)
    obtain ⟨xa0, xa1, xc0, xc1, xf0, xf1⟩ : _ ∧ _ ∧ _ ∧ _ ∧ _ ∧ _ := ⟨HT1.out.a0, HT1.out.a1, HT1.out.c0, HT1.out.c1, HT1.out.f0, HT1.out.f1⟩
    clear hb1 ya0 ya1 yc0 yc1 yf0 yf1 HM hw0
    have HA := Lib.hid (areCols_any A c cols w1 w1.heap.size (HC.out.up HT1.out.b (Nat.le_refl _)) (by omega) hcc)
    by_cases q2 : colsB cols = true
    · have HQ2 := Lib.hid q2
      rw [q2] at HA
      clear q2
      go_wp2_with fail
      refine HA.out.mono ?_
      rintro e w2 ⟨rfl, rfl⟩
      have HP := Lib.hid (places_any A0 c0 cols0 A c cols w1 (HC0.out.up HT1.out.b (Nat.le_refl _)) (HC.out.up HT1.out.b (Nat.le_refl _)) hl hl0)
      clear HA
      go_wp2_with fail
      refine HP.out.mono ?_
      rintro e w2 ⟨hb2, A7, c7, rfl, hpl⟩
      have HT2 := Lib.hid (HT1.out.next hb2)
      obtain ⟨za0, za1, zc0, zc1, zf0, zf1⟩ : _ ∧ _ ∧ _ ∧ _ ∧ _ ∧ _ := ⟨HT2.out.a0, HT2.out.a1, HT2.out.c0, HT2.out.c1, HT2.out.f0, HT2.out.f1⟩
      have HPL := Lib.hid hpl
      have HB2 := Lib.hid hb2
      clear hb2 xa0 xa1 xc0 xc1 xf0 xf1 HP hpl
      by_cases q3 : inB cols cols0 = true
      · have HQ3 := Lib.hid q3
        have HOP := Lib.hid (HPL.out q3)
        have HE : Hid (projC cols0 R cols = 0) := by show _ = _; unfold projC; rw [if_pos ⟨HQ1.out, HQ2.out, q3⟩]
        rw [q3]
        clear q3
        go_wp2_with fail
        obtain ⟨wd, hwd⟩ : ∃ wd, w2.drew = wd := ⟨_, rfl⟩
        have HSN : Hid (Below (w.heap.size + 1) w2 wd) := by show Below _ _ _; rw [← hwd]; exact (Below.refl _ _).drew
        have HTD : Hid (Two w wd (.slice A0 cols0.length c0) (.slice A1 R.length c1)) := by show Two _ _ _ _; rw [← hwd]; exact HT2.out.next (Below.refl _ _).drew
        have HOD : Hid (Own1 3 natV wd w1.heap.size (.slice A7 cols.length c7) (plN cols cols0)) := by show Own1 _ _ _ _ _ _; rw [← hwd]; exact HOP.out.next (Below.refl _ _).drew
        refine wp_region_held_drew (S := fun W => Below (w.heap.size + 1) w2 W) (by kernel_rfl) (by rw [hwd]; exact HSN.out) (fun hHeld => ?_)
        rw [hwd] at hHeld ⊢
        clear hwd zc0 zc1 zf0 zf1 za0 za1
        refine takeV 0 (some 27) ((.slice A cols.length c)) rfl rfl (by kernel_rfl) (by kernel_rfl) (by kernel_rfl) (fun _ _ _ h => h) (by rfl) (by (intro _w _hSw; (try dsimp only at _hSw); go_simp)) (by assumption) ?_
        simp only [Act.put, List.setIfInBounds_toArray, List.set_cons_zero, List.set_cons_succ]
        refine takeV 2 (some 29) ((.pointer (some ⟨w.heap.size, 1, none⟩))) rfl rfl (by kernel_rfl) (by kernel_rfl) (by kernel_rfl) (fun _ _ _ h => h) (by rfl) (by (intro _w _hSw; (try dsimp only at _hSw); go_simp)) (by assumption) ?_
        simp only [Act.put, List.setIfInBounds_toArray, List.set_cons_zero, List.set_cons_succ]
        refine takeV 3 (some 30) ((.slice A1 R.length c1)) rfl rfl (by kernel_rfl) (by kernel_rfl) (by kernel_rfl) (fun _ _ _ h => h) (by rfl) (by (intro _w hSw; have k0 := (Below.cell (p := ⟨w.heap.size, 1, none⟩) hSw (Nat.lt_succ_self _)).trans HT2.out.a1; clear hSw; go_simp)) (by assumption) ?_
        simp only [Act.put, List.setIfInBounds_toArray, List.set_cons_zero, List.set_cons_succ]
        refine takeV 4 (some 31) ((.slice A7 cols.length c7)) rfl rfl (by kernel_rfl) (by kernel_rfl) (by kernel_rfl) (fun _ _ _ h => h) (by rfl) (by (intro _w _hSw; (try dsimp only at _hSw); go_simp)) (by assumption) ?_
        simp only [Act.put, List.setIfInBounds_toArray, List.set_cons_zero, List.set_cons_succ]
        have HCL := Lib.hid (cloneS_any A c cols wd wd.heap.size (HC.out.up HTD.out.b (Nat.le_refl _)) HN.out (Nat.le_refl _) (by omega))
        refine callV 1 rfl (by kernel_rfl) (by rfl) (fun K hK => ?_)
        go_simp
        refine HCL.out.mono ?_
        rintro e w3 ⟨v3, rfl, ho3, hb3⟩
        obtain ⟨A5, c5, rfl, _⟩ := ho3.form
        have HT3 := Lib.hid (HTD.out.next hb3)
        have HO3 := Lib.hid ho3
        have HOD3 := Lib.hid (HOD.out.next hb3)
        refine hK.out _ _ (hHeld.trans (hb3.mono (Nat.le_of_lt HTD.out.lt))) (fun hHeld3 => ?_)
        clear hK K hHeld hb3 ho3 HCL
        try simp only [Act.put, List.setIfInBounds_toArray, List.set_cons_zero, List.set_cons_succ]
        have HPI := Lib.hid (picker_any A7 cols.length c7 w3)
        refine callV 5 rfl (by kernel_rfl) (by rfl) (fun K hK => ?_)
        go_simp
        refine HPI.out.mono ?_
        rintro e w4 ⟨rfl, hw4⟩
        have hb4 : Below w3.heap.size w3 w4 := by rw [hw4]; exact (Below.refl _ _).alloc (Nat.le_refl _) _
        have hx4 : w4.cell? ⟨w3.heap.size, 0, none⟩ = some (.slice A7 cols.length c7) := by rw [hw4]; exact cells_new _ _ _
        have hl4 : w3.heap.size < w4.heap.size := by rw [hw4]; simp
        have HT4 := Lib.hid (HT3.out.next hb4)
        have HO4 := Lib.hid (HO3.out.next hb4)
        have HPN : Hid ((plN cols cols0).length = cols.length) := by show _ = _; unfold plN; exact List.length_map ..
        have hod4 := HOD3.out.next hb4
        obtain ⟨A8, c8, e8, hs8, _⟩ := hod4.form
        rw [HPN.out] at e8
        injection e8 with e8 _ e9
        subst e8 e9
        have HLT : Hid (∀ r ∈ R, ∀ i ∈ plN cols cols0, i < r.l.length) := fun r hr i hi => by rw [longB_all (mayRel_long HQ1.out) r hr]; exact plN_lt HQ3.out i hi
        have hr4 := HR.out.up HT4.out.b (Nat.le_refl _)
        have HGA := Lib.hid (gathR_any 86 #[.pointer (some ⟨w3.heap.size, 0, none⟩)] (pickV (plN cols cols0)) A1 c1 R w4 hr4 (by omega) eg_picker (becomes_pick w3.heap.size A7 c7 (plN cols cols0) (by rw [HPN.out]; exact hx4) hl4 hs8 (by rw [HPN.out]; exact hl) hr4.r HLT.out) fun r hr => zOk_pick (hr4.r r hr).z (HLT.out r hr))
        refine hK.out _ _ (hHeld3.trans (hb4.mono (Nat.le_of_lt HT3.out.lt))) (fun hHeld4 => ?_)
        clear hK K hHeld3 hb4 hx4 hl4 hod4 hs8 hr4 HPI hw4
        try simp only [Act.put, List.setIfInBounds_toArray, List.set_cons_zero, List.set_cons_succ]
        refine callV 6 rfl (by kernel_rfl) (by rfl) (fun K hK => ?_)
        go_simp
        refine HGA.out.mono ?_
        rintro e w5 ⟨v5, R5, rfl, ho5, ht5, hb5⟩
        obtain ⟨A9, c9, rfl, _, _, _, _, hg9⟩ := ho5.form
        have hl5 : R5.length = R.length := by rw [← txR_len, ht5, List.length_map]
        have HT5 := Lib.hid (HT4.out.next hb5)
        have HO5c := Lib.hid (HO4.out.next hb5)
        have HO5 := Lib.hid ho5
        have HTX5 := Lib.hid ht5
        have HG9 := Lib.hid hg9
        have HSO := Lib.hid (sorted_any w4.heap.size _ R5 w5 ho5.o (ownR_rwN ho5) (by omega))
        refine hK.out _ _ (hHeld4.trans (hb5.mono (Nat.le_of_lt HT4.out.lt))) (fun hHeld5 => ?_)
        clear hK K hHeld4 hb5 ho5 ht5 hg9 HGA hl5
        try simp only [Act.put, List.setIfInBounds_toArray, List.set_cons_zero, List.set_cons_succ]
        refine callV 7 rfl (by kernel_rfl) (by rfl) (fun K hK => ?_)
        go_simp
        refine HSO.out.mono ?_
        rintro e w6 hso
        obtain ⟨A6, c6, R6, rfl, hans, ht6, hb6, hfar, hoc⟩ := sorted_own HO5.out hso
        have HB6 := Lib.hid hb6
        have HT6 : Hid (Two w w6 (.slice A0 cols0.length c0) (.slice A1 R.length c1)) := HT5.out.keep (hb6.mono HT4.out.lt)
        have HFAR := Lib.hid hfar
        have HANS := Lib.hid hans
        have HTX6 := Lib.hid ht6
        have HO6 := Lib.hid (hoc _ _ _ HO5c.out)
        refine hK.out _ _ (hHeld5.trans (hb6.mono (Nat.le_of_lt HT4.out.lt))) (fun hHeld6 => ?_)
        clear hK K hHeld5 hb6 hso hans ht6 hfar hoc HSO
        try simp only [Act.put, List.setIfInBounds_toArray, List.set_cons_zero, List.set_cons_succ]
        refine takeV 8 (some 35) ((.agg #[.slice A5 cols.length c5, .slice A6 R6.length c6])) rfl rfl (by kernel_rfl) (by kernel_rfl) (by kernel_rfl) (fun _ _ _ h => h) (by rfl) (by (intro _w _hSw; (try dsimp only at _hSw); go_simp)) (by assumption) ?_
        simp only [Act.put, List.setIfInBounds_toArray, List.set_cons_zero, List.set_cons_succ]
        obtain ⟨zc0, zc1, zf0, zf1⟩ : _ ∧ _ ∧ _ ∧ _ := ⟨HT6.out.c0, HT6.out.c1, HT6.out.f0, HT6.out.f1⟩
        refine callV 9 rfl (by kernel_rfl) (by rfl) (fun K hK => ?_)
        go_simp
        refine hK.out _ _ ((hHeld6.setCell (p := ⟨w.heap.size + 1, 0, none⟩) (Nat.le_refl _) _).setCell (p := ⟨w.heap.size + 1, 1, none⟩) (Nat.le_refl _) _) (fun hHeld7 => ?_)
        clear hK K hHeld6
        try simp only [Act.put, List.setIfInBounds_toArray, List.set_cons_zero, List.set_cons_succ]
        refine takeV 10 (some 5) ((.int .i64 0)) rfl rfl (by kernel_rfl) (by kernel_rfl) (by kernel_rfl) (fun _ _ _ h => h) (by rfl) (by (intro _w _hSw; (try dsimp only at _hSw); go_simp)) (by assumption) ?_
        simp only [Act.put, List.setIfInBounds_toArray, List.set_cons_zero, List.set_cons_succ]
        refine wpAnyH_done (by kernel_rfl) ?_ _
        have HC2 := Lib.hid (cells_two (v0 := .slice A5 cols.length c5) (v1 := .slice A6 R6.length c6) zc0 zc1)
        clear zc0 zc1 zf0 zf1
        go_wp2
        refine bodyPost_ret (v := .tuple #[.agg #[.slice A5 cols.length c5, .slice A6 R6.length c6], .int .i64 0]) (by rw [results_ct rfl]; obtain ⟨x0, x1⟩ := HC2.out; go_simp) rfl ?_
        rw [HE.out]
        have hz1 : w.heap.size + 2 ≤ wd.heap.size := HTD.out.lt
        have hz2 : w.heap.size + 2 ≤ w4.heap.size := HT4.out.lt
        refine HT6.out.rel (owns_low HO6.out hz1) (HANS.out.low hz2) (fun a e => ?_) (fun b1 b2 n1 k1 n2 k2 e1 e2 => ?_) ?_
        · obtain ⟨n, cc, e2⟩ := HFAR.out a e
          injection e2 with e2
          obtain ⟨g, rfl, h1, _⟩ := HG9.out a e2
          exact Nat.le_trans hz2 h1
        · injection e2 with e2
          obtain ⟨n, cc, e3⟩ := HFAR.out b2 e2
          exact owns_apart HO5c.out HO5.out.o (by decide) b1 b2 n1 k1 n cc e1 e3
        · rw [HTX6.out, HTX5.out]
          unfold projT txR
          rw [List.map_map]; rfl
      · rw [Bool.not_eq_true] at q3
        have HE : Hid (projC cols0 R cols = 2) := by show _ = _; unfold projC; rw [q3, if_neg (by simp)]
        rw [q3]
        clear q3
        have HC2 := Lib.hid (cells_two (v0 := .slice none 0 0) (v1 := .slice none 0 0) zc0 zc1)
        go_wp2
        refine bodyPost_ret (v := .tuple #[.agg #[.slice none 0 0, .slice none 0 0], .int .i64 2]) (by rw [results_ct rfl]; obtain ⟨x0, x1⟩ := HC2.out; clear zc0 zc1; go_simp) rfl ?_
        rw [HE.out]
        exact relEnd_no (by decide) (HT2.out.set _ _)
    · rw [Bool.not_eq_true] at q2
      have HE : Hid (projC cols0 R cols = 2) := by show _ = _; unfold projC; rw [q2, if_neg (by simp)]
      rw [q2] at HA
      clear q2
      go_wp2_with fail
      refine HA.out.mono ?_
      rintro e w2 ⟨rfl, rfl⟩
      have HC2 := Lib.hid (cells_two (v0 := .slice none 0 0) (v1 := .slice none 0 0) xc0 xc1)
      go_wp2
      refine bodyPost_ret (v := .tuple #[.agg #[.slice none 0 0, .slice none 0 0], .int .i64 2]) (by rw [results_ct rfl]; obtain ⟨x0, x1⟩ := HC2.out; clear xc0 xc1; go_simp) rfl ?_
      rw [HE.out]
      exact relEnd_no (by decide) (HT1.out.set _ _)
  · rw [Bool.not_eq_true] at q1
    have HE : Hid (projC cols0 R cols = 2) := by show _ = _; unfold projC; rw [q1, if_neg (by simp)]
    rw [q1] at HM
    clear q1
    go_enter Try.func18, Try.ntmps18
    go_wp2_with fail
    refine HM.out.mono ?_
    rintro e w1 ⟨rfl, hb1⟩
    have HT1 := Lib.hid (HT0.out.next hb1)
    obtain ⟨xa0, xa1, xc0, xc1, xf0, xf1⟩ : _ ∧ _ ∧ _ ∧ _ ∧ _ ∧ _ := ⟨HT1.out.a0, HT1.out.a1, HT1.out.c0, HT1.out.c1, HT1.out.f0, HT1.out.f1⟩
    clear hb1 ya0 ya1 yc0 yc1 yf0 yf1 HM hw0
    have HC2 := Lib.hid (cells_two (v0 := .slice none 0 0) (v1 := .slice none 0 0) xc0 xc1)
    go_wp2
    refine bodyPost_ret (v := .tuple #[.agg #[.slice none 0 0, .slice none 0 0], .int .i64 2]) (by rw [results_ct rfl]; obtain ⟨x0, x1⟩ := HC2.out; clear xc0 xc1; go_simp) rfl ?_
    rw [HE.out]
    exact relEnd_no (by decide) (HT1.out.set _ _)
end Go.Proofs.Ytafnhhbdcleihaa
