/-
  CONTRACT: rows.Rename.
-/
import Derived.Test.YtafnhhbdcleihaaZProj
namespace Go.Proofs.Ytafnhhbdcleihaa
open Go.RowKit

/-- what Rename says of its error -/
noncomputable def renC (cols0 : List ByteArray) (R : List Rw) (cols : List ByteArray) : Int := if mayRel cols0 R = true ∧ cols.length = cols0.length ∧ onceB cols = true then 0 else 2

set_option maxRecDepth 100000 in
set_option maxHeartbeats 4000000 in
theorem rename_any (A0 : Option Addr) (c0 : Nat) (cols0 : List ByteArray) (A1 : Option Addr) (c1 : Nat) (R : List Rw) (A : Option Addr) (c : Nat) (cols : List ByteArray) (w : World) (hc0 : SlC w w.heap.size A0 cols0) (hR : SlR w w.heap.size A1 R) (hc : SlC w w.heap.size A cols)
    (hn : A = none → cols.length = 0 ∧ c = 0) (hcc : cols.length ≤ c) (hcc0 : cols0.length ≤ c0) (hl0 : cols0.length ≤ 1000000000) (hl1 : R.length ≤ 1000000000) (hl : cols.length ≤ 1000000000) :
    Calls Try.prog 21 #[.agg #[.slice A0 cols0.length c0, .slice A1 R.length c1], .slice A cols.length c] w (RelEnd w cols (txR R) (renC cols0 R cols)) := by
  have HC0 := Lib.hid hc0
  have HR := Lib.hid hR
  have HC := Lib.hid hc
  have HN := Lib.hid hn
  clear hc0 hR hc hn
  obtain ⟨w0, hw0⟩ : ∃ w0, (w.alloc (.cells #[.slice A0 cols0.length c0, .slice A1 R.length c1] 26)).alloc (.cells #[.slice none 0 0, .slice none 0 0] 26) = w0 := ⟨_, rfl⟩
  have htw : Two w w0 (.slice A0 cols0.length c0) (.slice A1 R.length c1) := by rw [← hw0]; exact two_new _ _ _ _
  have HM := Lib.hid (may_any A0 c0 cols0 A1 c1 R w0 (HC0.out.up htw.b (Nat.le_refl _)) (HR.out.up htw.b (Nat.le_refl _)) hcc0 hl0 hl1)
  have HT0 := Lib.hid htw
  obtain ⟨ya0, ya1, yc0, yc1, yf0, yf1⟩ : _ ∧ _ ∧ _ ∧ _ ∧ _ ∧ _ := ⟨htw.a0, htw.a1, htw.c0, htw.c1, htw.f0, htw.f1⟩
  have hs1 : (w.alloc (.cells #[.slice A0 cols0.length c0, .slice A1 R.length c1] 26)).heap.size = w.heap.size + 1 := by simp
  clear htw
  by_cases q1 : mayRel cols0 R = true
  · have HQ1 := Lib.hid q1
    rw [q1] at HM
    clear q1
    have h0 : cols0.length ≤ 1000000000 := hl0
    by_cases q2 : cols.length = cols0.length
    · have q2i : ((cols.length : Int) != (cols0.length : Int)) = false := by rw [q2]; simp
      have HQ2 := Lib.hid q2
      clear q2
      go_enter Try.func21, Try.ntmps21
      go_wp2_with fail
      refine HM.out.mono ?_
      rintro e w1 ⟨rfl, hb1⟩
      have HT1 := Lib.hid (HT0.out.next hb1)
      obtain ⟨xa0, xa1, xc0, xc1, xf0, xf1⟩ : _ ∧ _ ∧ _ ∧ _ ∧ _ ∧ _ := ⟨HT1.out.a0, HT1.out.a1, HT1.out.c0, HT1.out.c1, HT1.out.f0, HT1.out.f1⟩
      clear hb1 ya0 ya1 yc0 yc1 yf0 yf1 HM hw0
      have HA := Lib.hid (eachOnce_any A c cols w1 w1.heap.size (HC.out.up HT1.out.b (Nat.le_refl _)) (by omega) hcc)
      by_cases q3 : onceB cols = true
      · have HE : Hid (renC cols0 R cols = 0) := by show _ = _; unfold renC; rw [if_pos ⟨HQ1.out, HQ2.out, q3⟩]
        rw [q3] at HA
        clear q3
        go_wp2_with fail
        refine HA.out.mono ?_
        rintro e w2 ⟨rfl, rfl⟩
        clear HA
        go_wp2_with fail
        obtain ⟨wd, hwd⟩ : ∃ wd, w1.drew = wd := ⟨_, rfl⟩
        have HSN : Hid (Below (w.heap.size + 1) w1 wd) := by show Below _ _ _; rw [← hwd]; exact (Below.refl _ _).drew
        have HTD : Hid (Two w wd (.slice A0 cols0.length c0) (.slice A1 R.length c1)) := by show Two _ _ _ _; rw [← hwd]; exact HT1.out.next (Below.refl _ _).drew
        refine wp_region_held_drew (S := fun W => Below (w.heap.size + 1) w1 W) (by kernel_rfl) (by rw [hwd]; exact HSN.out) (fun hHeld => ?_)
        rw [hwd] at hHeld ⊢
        clear hwd xc0 xc1 xf0 xf1 xa0 xa1
        refine takeV 0 (some 23) ((.slice A cols.length c)) rfl rfl (by kernel_rfl) (by kernel_rfl) (by kernel_rfl) (fun _ _ _ h => h) (by rfl) (by (intro _w _hSw; (try dsimp only at _hSw); go_simp)) (by assumption) ?_
        simp only [Act.put, List.setIfInBounds_toArray, List.set_cons_zero, List.set_cons_succ]
        refine takeV 2 (some 25) ((.pointer (some ⟨w.heap.size, 1, none⟩))) rfl rfl (by kernel_rfl) (by kernel_rfl) (by kernel_rfl) (fun _ _ _ h => h) (by rfl) (by (intro _w _hSw; (try dsimp only at _hSw); go_simp)) (by assumption) ?_
        simp only [Act.put, List.setIfInBounds_toArray, List.set_cons_zero, List.set_cons_succ]
        refine takeV 3 (some 26) ((.slice A1 R.length c1)) rfl rfl (by kernel_rfl) (by kernel_rfl) (by kernel_rfl) (fun _ _ _ h => h) (by rfl) (by (intro _w hSw; have k0 := (Below.cell (p := ⟨w.heap.size, 1, none⟩) hSw (Nat.lt_succ_self _)).trans HT1.out.a1; clear hSw; go_simp)) (by assumption) ?_
        simp only [Act.put, List.setIfInBounds_toArray, List.set_cons_zero, List.set_cons_succ]
        have HCL := Lib.hid (cloneS_any A c cols wd wd.heap.size (HC.out.up HTD.out.b (Nat.le_refl _)) HN.out (Nat.le_refl _) (by omega))
        refine callV 1 rfl (by kernel_rfl) (by rfl) (fun K hK => ?_)
        go_simp
        refine HCL.out.mono ?_
        rintro e w3 ⟨v3, rfl, ho3, hb3⟩
        obtain ⟨A5, c5, rfl, _⟩ := ho3.form
        have HT3 := Lib.hid (HTD.out.next hb3)
        have HO3 := Lib.hid ho3
        refine hK.out _ _ (hHeld.trans (hb3.mono (Nat.le_of_lt HTD.out.lt))) (fun hHeld3 => ?_)
        clear hK K hHeld hb3 ho3 HCL
        try simp only [Act.put, List.setIfInBounds_toArray, List.set_cons_zero, List.set_cons_succ]
        have hr3 := HR.out.up HT3.out.b (Nat.le_refl _)
        have HGA := Lib.hid (gathR_any 49 #[] (fun l => l) A1 c1 R w3 hr3 (by omega) eg_clone (becomes_clone hr3.r fun r hr => by
          rw [longB_all (mayRel_long HQ1.out) r hr]; omega) fun r hr => (hr3.r r hr).z)
        clear hr3
        refine callV 4 rfl (by kernel_rfl) (by rfl) (fun K hK => ?_)
        go_simp
        refine HGA.out.mono ?_
        rintro e w5 ⟨v5, R5, rfl, ho5, ht5, hb5⟩
        obtain ⟨A9, c9, rfl, _, _, _, _, hg9⟩ := ho5.form
        have HT5 := Lib.hid (HT3.out.next hb5)
        have HO5c := Lib.hid (HO3.out.next hb5)
        have HO5 := Lib.hid ho5
        have HTX5 := Lib.hid ht5
        have HG9 := Lib.hid hg9
        refine hK.out _ _ (hHeld3.trans (hb5.mono (Nat.le_of_lt HT3.out.lt))) (fun hHeld5 => ?_)
        clear hK K hHeld3 hb5 ho5 ht5 hg9 HGA
        try simp only [Act.put, List.setIfInBounds_toArray, List.set_cons_zero, List.set_cons_succ]
        refine takeV 5 (some 28) ((.agg #[.slice A5 cols.length c5, .slice A9 R5.length c9])) rfl rfl (by kernel_rfl) (by kernel_rfl) (by kernel_rfl) (fun _ _ _ h => h) (by rfl) (by (intro _w _hSw; (try dsimp only at _hSw); go_simp)) (by assumption) ?_
        simp only [Act.put, List.setIfInBounds_toArray, List.set_cons_zero, List.set_cons_succ]
        obtain ⟨zc0, zc1, zf0, zf1⟩ : _ ∧ _ ∧ _ ∧ _ := ⟨HT5.out.c0, HT5.out.c1, HT5.out.f0, HT5.out.f1⟩
        refine callV 6 rfl (by kernel_rfl) (by rfl) (fun K hK => ?_)
        go_simp
        refine hK.out _ _ ((hHeld5.setCell (p := ⟨w.heap.size + 1, 0, none⟩) (Nat.le_refl _) _).setCell (p := ⟨w.heap.size + 1, 1, none⟩) (Nat.le_refl _) _) (fun hHeld7 => ?_)
        clear hK K hHeld5
        try simp only [Act.put, List.setIfInBounds_toArray, List.set_cons_zero, List.set_cons_succ]
        refine takeV 7 (some 5) ((.int .i64 0)) rfl rfl (by kernel_rfl) (by kernel_rfl) (by kernel_rfl) (fun _ _ _ h => h) (by rfl) (by (intro _w _hSw; (try dsimp only at _hSw); go_simp)) (by assumption) ?_
        simp only [Act.put, List.setIfInBounds_toArray, List.set_cons_zero, List.set_cons_succ]
        refine wpAnyH_done (by kernel_rfl) ?_ _
        have HC2 := Lib.hid (cells_two (v0 := .slice A5 cols.length c5) (v1 := .slice A9 R5.length c9) zc0 zc1)
        clear zc0 zc1 zf0 zf1
        go_wp2
        refine bodyPost_ret (v := .tuple #[.agg #[.slice A5 cols.length c5, .slice A9 R5.length c9], .int .i64 0]) (by rw [results_ct rfl]; obtain ⟨x0, x1⟩ := HC2.out; go_simp) rfl ?_
        rw [HE.out]
        have hz1 : w.heap.size + 2 ≤ wd.heap.size := HTD.out.lt
        have hz2 : w.heap.size + 2 ≤ w3.heap.size := HT3.out.lt
        refine HT5.out.rel (owns_low HO5c.out hz1) (HO5.out.ans.low hz2) (fun a e => ?_) (fun b1 b2 n1 k1 n2 k2 e1 e2 => ?_) ?_
        · obtain ⟨g, rfl, h1, _⟩ := HG9.out a e
          exact Nat.le_trans hz2 h1
        · exact owns_apart HO5c.out HO5.out.o (by decide) b1 b2 n1 k1 n2 k2 e1 e2
        · rw [HTX5.out]; rfl
      · rw [Bool.not_eq_true] at q3
        have HE : Hid (renC cols0 R cols = 2) := by show _ = _; unfold renC; rw [q3, if_neg (by simp)]
        rw [q3] at HA
        clear q3
        go_wp2_with fail
        refine HA.out.mono ?_
        rintro e w2 ⟨rfl, rfl⟩
        have HC2 := Lib.hid (cells_two (v0 := .slice none 0 0) (v1 := .slice none 0 0) xc0 xc1)
        go_wp2
        refine bodyPost_ret (v := .tuple #[.agg #[.slice none 0 0, .slice none 0 0], .int .i64 2]) (by rw [results_ct rfl]; obtain ⟨x0, x1⟩ := HC2.out; clear xc0 xc1; go_simp) rfl ?_
        rw [HE.out]
        exact relEnd_no (by decide) (HT1.out.set _ _)
    · have q2i : ((cols.length : Int) != (cols0.length : Int)) = true := by rw [bne_iff_ne]; omega
      have HE : Hid (renC cols0 R cols = 2) := by show _ = _; unfold renC; rw [if_neg (fun h => q2 h.2.1)]
      clear q2
      go_enter Try.func21, Try.ntmps21
      go_wp2_with fail
      refine HM.out.mono ?_
      rintro e w1 ⟨rfl, hb1⟩
      have HT1 := Lib.hid (HT0.out.next hb1)
      obtain ⟨xa0, xa1, xc0, xc1, xf0, xf1⟩ : _ ∧ _ ∧ _ ∧ _ ∧ _ ∧ _ := ⟨HT1.out.a0, HT1.out.a1, HT1.out.c0, HT1.out.c1, HT1.out.f0, HT1.out.f1⟩
      clear hb1 ya0 ya1 yc0 yc1 yf0 yf1 HM hw0
      have HC2 := Lib.hid (cells_two (v0 := .slice none 0 0) (v1 := .slice none 0 0) xc0 xc1)
      go_wp2
      refine bodyPost_ret (v := .tuple #[.agg #[.slice none 0 0, .slice none 0 0], .int .i64 2]) (by rw [results_ct rfl]; obtain ⟨x0, x1⟩ := HC2.out; clear xc0 xc1; go_simp) rfl ?_
      rw [HE.out]
      exact relEnd_no (by decide) (HT1.out.set _ _)
  · rw [Bool.not_eq_true] at q1
    have HE : Hid (renC cols0 R cols = 2) := by show _ = _; unfold renC; rw [q1, if_neg (by simp)]
    rw [q1] at HM
    clear q1
    go_enter Try.func21, Try.ntmps21
    go_wp2_with fail
    refine HM.out.mono ?_
    rintro e w1 ⟨rfl, hb1⟩
    have HT1 := Lib.hid (HT0.out.next hb1)
    obtain ⟨xa0, xa1, xc0, xc1, xf0, xf1⟩ : _ ∧ _ ∧ _ ∧ _ ∧ _ ∧ _ := ⟨HT1.out.a0, HT1.out.a1, HT1.out.c0, HT1.out.c1, HT1.out.f0, HT1.out.f1⟩
    clear hb1 ya0 ya1 yc0 yc1 yf0 yf1 HM hw0
    have HC2 := Lib.hid (cells_two (v0 := .slice none 0 0) (v1 := .slice none 0 0) xc0 xc1)
    go_wp2
    refine bodyPost_ret (v := .tuple #[.agg #[.slice none 0 0, .slice none 0 0], .int .i64 2]) (by rw [results_ct rfl]; obtain ⟨x0, x1⟩ := HC2.out; clear xc0 xc1; go_simp) rfl ?_
    rw [HE.out]
    exact relEnd_no (by decide) (HT1.out.set _ _)
end Go.Proofs.Ytafnhhbdcleihaa
