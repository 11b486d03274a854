/-
  CONTRACT: Diff.
-/
import Derived.Test.YtohpilamoglhcaaQTlU
import Derived.Test.YtohpilamoglhcaaQRange
namespace Go.Proofs.Ytohpilamoglhcaa
open Go.RowKit Go.Shelf
attribute [local go_sem] Oper.semAt_some
attribute [local go_sem] yield_un3

/-- what stands while pairs come -/
structure DMid [LT Gb] (w : World) (bl : Nat) (pre : List (PrB w)) (W : World) : Prop where
  row : ∃ v qs, Boxed W bl 68 v ∧ OwnQ W w.heap.size v qs ∧ qs.map (·.1) = pre.map (·.1.2)
  low : Below w.heap.size w W
theorem DMid.next [LT Gb] {w : World} {bl : Nat} {pre : List (PrB w)} {W W' : World} (h : DMid w bl pre W) (hb : Below W.heap.size W W') : DMid w bl pre W' := by
  obtain ⟨v, qs, g1, g2, g3⟩ := h.row
  exact ⟨⟨v, qs, (hb.block _ g1.lt).trans g1, g2.next hb, g3⟩, h.low.trans (hb.mono h.low.size)⟩
theorem dmid_step [LT Gb] {w : World} {bl n : Nat} {pre : List (PrB w)} {x : PrB w} {W W4 w6 : World} {v v' : Value} {qs : List Q3} {u1 u2 : Value} (hv : Boxed W bl 68 v) (ho : OwnQ W w.heap.size v qs) (hl : Below w.heap.size w W) (hbl : w.heap.size ≤ bl)
    (hb4 : Below W.heap.size W W4) (hpv : PrV W4 W.heap.size (.agg #[u1, u2]) x.1.2) (hown : w6.ownsRow w.heap.size 93 2 v' (qs.length + 1) (qs.flatMap cellsQ ++ [u1, u2])) (hg : (W4.alloc (.cells #[u1, u2] 93)).grownBy w6 v.ownBlock) (hat : ∃ g c, v' = .slice (some ⟨g, 0, none⟩) (qs.length + 1) c)
    (hq : qs.map (·.1) = pre.map (·.1.2)) :
    KeepsFrom n W (w6.setCell ⟨bl, 0, none⟩ v') ∧ Below w.heap.size W (w6.setCell ⟨bl, 0, none⟩ v') ∧ DMid w bl (pre ++ [x]) (w6.setCell ⟨bl, 0, none⟩ v') := by
  obtain ⟨_, h2, h3, h4, h5, _⟩ := row_step (n := n) hv ho hl hbl hb4 hpv hown hg hat
  exact ⟨h2, h3, ⟨v', qs ++ [(x.1.2, u1, u2)], h4, h5, by rw [List.map_append, hq, List.map_append]; rfl⟩, hl.trans h3⟩
theorem dMid_own [LT Gb] (w : World) (M bl : Nat) (h0 : w.heap.size ≤ M) (h3 : bl < M) : OwnFrom M (DMid w bl) := fun pre X Y row g hg hr => by
  have hne : ∀ b, b < M → some b ≠ row := fun b hb e => by have := (hr b e.symm).1; omega
  obtain ⟨v, qs, g1, g2, g3⟩ := g.row
  exact ⟨⟨v, qs, g1.kept hg (hne _ h3), g2.kept hg (fun r e => (hr r e).2), g3⟩, g.low.grown hg g.low.size (fun j ej => by have := (hr j ej).1; omega)⟩
/-- the pairs of a list that another one has not so -/
def diffL (L M : List Pr) : List Pr := L.filter (fun p => !decide (getL M p.1 = some p.2))
theorem unQ_map [LT Gb] {w0 : World} (o : Tr) (ps : List (PrB w0)) (h : Rise o.list) : (unQ o ps).map (·.1.2) = diffL (ps.map (·.1.2)) o.list := by
  unfold unQ diffL
  rw [List.filter_map]
  congr 1
  refine List.filter_congr (fun x _ => ?_)
  simp only [Function.comp]
  rw [has_get x.1.2 h]
set_option maxRecDepth 100000 in
set_option maxHeartbeats 4000000 in
theorem diff_in [LT Gb] (m : Nat) (hm3 : Hid (5 ≤ m)) {v v2 : Value} {L L2 : List Pr} (w : World) (h : TreeV w v L) (hh : TreeV w v2 L2) :
    CallsIn Fence.wide m Try.prog 21 #[v, v2] w fun e w' => ∃ v' qs, e = .returned v' ∧ OwnQ w' w.heap.size v' qs ∧ qs.map (·.1) = diffL L L2 ∧ Below w.heap.size w w' := by
  obtain ⟨i0, hi, hz0, hz1, hz2⟩ := info_parts infoP
  obtain ⟨⟨u, t, rfl, h2, h3, rfl⟩, hR, hs, hf⟩ := h
  obtain ⟨⟨u2, t2, rfl, g2, g3, rfl⟩, gR, gs, gf⟩ := hh
  obtain ⟨ps, hps⟩ := tb_of h3 hs
  have HT := Lib.hid (fun X (hX : Below w.heap.size w X) => top_any (u := u) (t := t) X (by
    rcases h2 with h2 | ⟨b, e, h2⟩
    · exact .inl h2
    · exact .inr ⟨b, e, (hX.block b (Array.getElem?_eq_some_iff.1 h2).1).trans h2⟩))
  have HT2 := Lib.hid (fun X (hX : Below w.heap.size w X) => top_any (u := u2) (t := t2) X (by
    rcases g2 with h2 | ⟨b, e, h2⟩
    · exact .inl h2
    · exact .inr ⟨b, e, (hX.block b (Array.getElem?_eq_some_iff.1 h2).1).trans h2⟩))
  obtain ⟨ut, hut⟩ := t.ptr_pointer
  obtain ⟨ut2, hut2⟩ := t2.ptr_pointer
  rw [hut] at HT
  rw [hut2] at HT2
  refine callsIn_of_wp_marks Try.func21 rfl trivial ?_ rfl
  simp only [Try.ntmps21, List.size_toArray, List.length_cons, List.length_nil, Nat.reduceAdd, Nat.reduceSub, Array.replicate_succ, Array.replicate_zero, List.push_toArray, List.append_toArray, List.nil_append, List.cons_append]
  gi_wp2_with fail
  obtain ⟨w3, hw3⟩ : ∃ X, w.alloc (.cells #[.slice none 0 0] 68) = X := ⟨_, rfl⟩
  have hz3 : w3.heap.size = w.heap.size + 1 := by rw [← hw3]; simp
  have hb3 : Below w.heap.size w w3 := by rw [← hw3]; exact (Below.refl _ _).alloc (Nat.le_refl _) _
  have B3 : Boxed w3 w.heap.size 68 (.slice none 0 0) := by rw [← hw3]; exact Boxed.new w _ _
  try rw [hw3]
  have HZ3 := Lib.hid hz3
  clear hw3 hz3
  refine ⟨trivial, wide_deep _, ?_⟩
  refine (callsIn_wide.2 (HT.out _ hb3)).mono ?_
  rintro e w' ⟨rfl, rfl⟩
  gi_wp2_with fail
  refine ⟨trivial, wide_deep _, ?_⟩
  refine (callsIn_wide.2 (HT2.out _ hb3)).mono ?_
  rintro e w' ⟨rfl, rfl⟩
  gi_wp2_with fail
  refine ⟨trivial, wide_deep _, ?_⟩
  refine (callsIn_wide.2 (unlikeOf_any ut ut2 w3)).mono ?_
  rintro e w4 ⟨rfl, hw4⟩
  have hz4 : w4.heap.size = w3.heap.size + 2 := by rw [hw4]; simp
  have hb34 : Below w3.heap.size w3 w4 := by rw [hw4]; exact ((Below.refl _ _).alloc (Nat.le_refl _) _).alloc (by simp) _
  have hbw4 : Below w.heap.size w w4 := hb3.trans (hb34.mono hb3.size)
  have HZ4 := Lib.hid hz4
  clear hz4
  have hbx1 : w4.cell? ⟨w3.heap.size, 0, none⟩ = some t.ptr := by rw [hut, hw4]; exact ((Boxed.new w3 48 (.pointer ut)).alloc _).cell
  have hbx2 : w4.cell? ⟨w3.heap.size + 1, 0, none⟩ = some t2.ptr := by
    rw [hut2, hw4]
    have := Boxed.new (w3.alloc (.cells #[.pointer ut] 48)) 48 (.pointer ut2)
    rw [World.size_alloc] at this
    exact this.cell
  have hmid : DMid w w.heap.size [] w4 := ⟨⟨_, [], (hb34.block _ B3.lt).trans B3, ownQ_nil _ _, rfl⟩, hbw4⟩
  clear hw4 hb34 B3
  gi_wp2_with fail
  have hro : Fence.wide.round = none := rfl
  have hz3 := HZ3.out
  have hz4 := HZ4.out
  refine wpIn_rangeFunc_ownH hro (by have := hm3.out; omega) (gf := 85) (lb := #[.pointer (some ⟨w3.heap.size, 0, none⟩), .pointer (some ⟨w3.heap.size + 1, 0, none⟩)]) rfl trivial (enters_of Try.func85 (by kernel_rfl) rfl)
    (un_stops (m - 1) ps.length w w4 w3.heap.size (w3.heap.size + 1) t t2 ps hps hR g3 hbw4 (Nat.le_refl _) hbx1 hbx2 (by omega) (by omega))
    (fun h k => h.trans k) (fun W l o o' hl h h1 h2 => belowK_b (w := w4) (n₀ := w.heap.size) (by omega) W l o o' hl h h1 h2) (Below.refl _ _) (fun _ => rfl)
    (DMid w w.heap.size) (fun _ _ _ => False) (dMid_own w _ _ (by omega) (by omega)) (fun cd => (fun _ _ _ _ h _ _ => h))
    hmid
    (fun x a' _ => a' = { tmps := #[.pointer u, .pointer u2, undef, undef, .slice none 0 0, .pointer (some ⟨w.heap.size, 0, none⟩), .pointer (some ⟨x.1.1, 0, none⟩), .pointer u, .pointer ut, .pointer u2, .pointer ut2, (.func (.func 85) #[] #[.pointer (some ⟨w3.heap.size, 0, none⟩), .pointer (some ⟨w3.heap.size + 1, 0, none⟩)]), .pointer (some ⟨x.1.1, 0, none⟩), undef, undef, undef, undef, undef, undef, undef, undef], defers := [] })
    (fun x a' _ X Y row e _ _ => e) ?assign ?body ?done ?stop
  case assign =>
    clear hz3 hz4
    rintro lp pre x W K hM hK
    gi_wp2
    exact hK _ _ ((KeepsOthers.refl W).from _) (Below.refl _ _) hM rfl
  case body =>
    clear hz3 hz4
    rintro lp pre x a' W hwl hrec hM rfl hlt
    try dsimp only
    obtain ⟨v, qs, hv, ho, hq⟩ := hM.row
    obtain ⟨Av, cv, rfl⟩ := ho.form
    obtain ⟨A5, c5, A6, c6, hpb, hp1, hp2⟩ := x.2.1
    replace hp1 := hp1.1
    replace hp2 := hp2.1
    have hbl := (Array.getElem?_eq_some_iff.1 hpb).1
    have HLW := Lib.hid hM.low
    have HM := Lib.hid hM
    have HV := Lib.hid hv
    have HO := Lib.hid ho
    have HQ := Lib.hid hq
    have hql : qs.length = pre.length := by have := congrArg List.length hq; simpa using this
    have HQL := Lib.hid hql
    have b0 : W.drew.cell? ⟨w.heap.size, 0, none⟩ = some (.slice Av qs.length cv) := hv.cell
    have HP0 : Hid (∀ X, Below w.heap.size w X → X.cell? ⟨x.1.1, 0, none⟩ = some (.slice A5 x.1.2.1.length c5) ∧ X.cell? ⟨x.1.1, 1, none⟩ = some (.slice A6 x.1.2.2.length c6)) := fun X hX => by
      rw [hX.cell (p := ⟨x.1.1, 0, none⟩) hbl, hX.cell (p := ⟨x.1.1, 1, none⟩) hbl]
      simp [World.cell?, hpb]
    have HPL : Hid (pre.length ≤ 100000) := by show _ ≤ _; have h9 := congrArg List.length (tb_list hps); rw [List.length_map] at h9; omega
    have HOW := Lib.hid (fun X (hX : Below w.heap.size w X) => own_any A5 A6 c5 c6 x.1.2 X (slB_up hp1 hX) (slB_up hp2 hX) x.2.2.1 x.2.2.2)
    have hfo : Try.prog.follows .mixedOrders = true := by kernel_rfl
    have hfo2 : Fence.wide.fn 33 := trivial
    have hmx : 200000 ≤ maxLen := by decide
    clear hv ho hq hM hpb hbl hql hrec
    gi_wp2
    refine wpIn_region_any (by assumption) ?_
    obtain ⟨Wd, hWd⟩ : ∃ X, W.drew = X := ⟨_, rfl⟩
    have hbd : Below W.heap.size W Wd := by rw [← hWd]; exact (Below.refl W.heap.size W).drew
    have HOWX := Lib.hid (HOW.out Wd (HLW.out.trans (hbd.mono HLW.out.size)))
    have hM1 := (HM.out).next hbd
    have HM1 := Lib.hid hM1
    have HLD := Lib.hid hM1.low
    have hv1 : Boxed Wd w.heap.size 68 (.slice Av qs.length cv) := (hbd.block _ HV.out.lt).trans HV.out
    have HO0 := HO
    have HV0 := HV
    clear HO HV
    have HO := Lib.hid (HO0.out.next hbd)
    have HV := Lib.hid hv1
    have HBL := Lib.hid hv1.lt
    have HK0 := Lib.hid (keepsFrom_below (B := w4.heap.size) hbd)
    have HK1 := Lib.hid (hbd.mono HLW.out.size)
    have b0' := hv1.cell
    have p0' := (HP0.out Wd hM1.low).1
    have p1' := (HP0.out Wd hM1.low).2
    clear b0
    try clear p0
    have b0 := b0'
    have p0 := p0'
    have p1 := p1'
    clear b0' p0' p1'
    have HOW := HOWX
    try (change wpAnyIn _ _ _ _ _ _ _ _ _ W.drew)
    rw [hWd]
    clear hbd hM1 hv1 hWd HOWX HM HO0 HV0
    refine wpAnyIn_ready (rs := [0, 1]) (by kernel_rfl) (by simp) (AllReadyIn.cons rfl (fun K hK => ?_) (AllReadyIn.cons rfl (fun K hK => ?_) AllReadyIn.nil))
    ·
      go_simp
      refine hK _ _ ?_
      clear hK K
      refine wpAnyIn_ready (rs := [1]) (by kernel_rfl) (by simp) (AllReadyIn.cons rfl (fun K hK => ?_) AllReadyIn.nil)
      go_simp
      refine hK _ _ ?_
      clear hK K
      refine wpAnyIn_ready (rs := [2]) (by kernel_rfl) (by simp) (AllReadyIn.cons rfl (fun K hK => ?_) AllReadyIn.nil)
      go_simp
      refine hK _ _ ?_
      clear hK K
      refine wpAnyIn_ready (rs := [3]) (by kernel_rfl) (by simp) (AllReadyIn.cons rfl (fun K hK => ?_) AllReadyIn.nil)
      go_simp
      refine hK _ _ ?_
      clear hK K
      refine wpAnyIn_ready (rs := [4]) (by kernel_rfl) (by simp) (AllReadyIn.cons rfl (fun K hK => ?_) AllReadyIn.nil)
      go_simp
      refine ⟨wide_deep _, (CallsIn.inRound lp (callsIn_wide.2 HOW.out)).mono ?_⟩
      rintro e W4 ⟨v4, he, hpv, hb4⟩
      obtain ⟨A7, c7, A8, c8, M7, e7, _⟩ := id hpv
      rw [e7] at he hpv
      subst he
      have HPV := Lib.hid hpv
      have HB4 := Lib.hid hb4
      have b4 := (hb4.cell (p := ⟨w.heap.size, 0, none⟩) HBL.out).trans b0
      clear hpv hb4 e7
      refine hK _ _ ?_
      clear hK K
      refine wpAnyIn_ready (rs := [5]) (by kernel_rfl) (by simp) (AllReadyIn.cons rfl (fun K hK => ?_) AllReadyIn.nil)
      have b5 : (W4.alloc (.cells #[.slice A7 x.1.2.1.length c7, .slice A8 x.1.2.2.length c8] 93)).cell? ⟨w.heap.size, 0, none⟩ = some (.slice Av qs.length cv) := (((Below.refl W4.heap.size W4).alloc (Nat.le_refl _) _).cell (p := ⟨w.heap.size, 0, none⟩) (Nat.lt_of_lt_of_le HBL.out HB4.out.size)).trans b4
      go_simp
      refine hK _ _ ?_
      clear hK K
      refine wpAnyIn_ready (rs := [6]) (by kernel_rfl) (by simp) (AllReadyIn.cons rfl (fun K hK => ?_) AllReadyIn.nil)
      rw [if_pos (by rfl)]
      refine wpIn_appendP _ _ _ 68 rfl w.heap.size 93 i0 (.agg #[.slice none 0 0, .slice none 0 0]) 2 48 Try.underlying68 hi hz0 hz1 hz2 rfl (by decide) (.slice Av qs.length cv) qs.length _ rfl (World.ownsRow.alloc (HO.out.next HB4.out).row (.cells #[.slice A7 x.1.2.1.length c7, .slice A8 x.1.2.2.length c8] 93)) ⟨W4.heap.size, 0, none⟩ 1 1 [.slice A7 x.1.2.1.length c7, .slice A8 x.1.2.2.length c8] rfl rfl (fun j u h => cell_lit W4 #[.slice A7 x.1.2.1.length c7, .slice A8 x.1.2.2.length c8] 93 j u h) (by simp [Value.oneCell']) (by have := HQL.out; have := HPL.out; omega) (by have := HQL.out; have := HPL.out; omega) (by have := HLD.out.size; have := HB4.out.size; simp; omega) ?_
      intro v6 w6 hown hgrow _
      obtain ⟨g6, cap6, rfl⟩ := ownsRow_succ hown
      have HST := Lib.hid (dmid_step (n := w4.heap.size) HV.out HO.out HLD.out (Nat.le_refl _) HB4.out HPV.out hown hgrow ⟨g6, cap6, rfl⟩ HQ.out)
      have h6 := (row_step (n := 0) HV.out HO.out HLD.out (by omega) HB4.out HPV.out hown hgrow ⟨g6, cap6, rfl⟩).1
      have y0 := h6.cell
      have y1 := h6.frozen
      clear hown hgrow h6
      refine hK _ _ ?_
      clear hK K
      refine wpAnyIn_ready (rs := [7]) (by kernel_rfl) (by simp) (AllReadyIn.cons rfl (fun K hK => ?_) AllReadyIn.nil)
      go_simp
      refine hK _ _ ?_
      clear hK K
      refine wpAnyIn_done (by kernel_rfl) ?_ _
      gi_wp2
      exact ⟨HK0.out.trans HST.out.1, HK1.out.trans HST.out.2.1, HST.out.2.2⟩
    ·
      go_simp
      refine hK _ _ ?_
      clear hK K
      refine wpAnyIn_ready (rs := [0, 2]) (by kernel_rfl) (by simp) (AllReadyIn.cons rfl (fun K hK => ?_) (AllReadyIn.cons rfl (fun K hK => ?_) AllReadyIn.nil))
      ·
        go_simp
        refine hK _ _ ?_
        clear hK K
        refine wpAnyIn_ready (rs := [2]) (by kernel_rfl) (by simp) (AllReadyIn.cons rfl (fun K hK => ?_) AllReadyIn.nil)
        go_simp
        refine hK _ _ ?_
        clear hK K
        refine wpAnyIn_ready (rs := [3]) (by kernel_rfl) (by simp) (AllReadyIn.cons rfl (fun K hK => ?_) AllReadyIn.nil)
        go_simp
        refine hK _ _ ?_
        clear hK K
        refine wpAnyIn_ready (rs := [4]) (by kernel_rfl) (by simp) (AllReadyIn.cons rfl (fun K hK => ?_) AllReadyIn.nil)
        go_simp
        refine ⟨wide_deep _, (CallsIn.inRound lp (callsIn_wide.2 HOW.out)).mono ?_⟩
        rintro e W4 ⟨v4, he, hpv, hb4⟩
        obtain ⟨A7, c7, A8, c8, M7, e7, _⟩ := id hpv
        rw [e7] at he hpv
        subst he
        have HPV := Lib.hid hpv
        have HB4 := Lib.hid hb4
        have b4 := (hb4.cell (p := ⟨w.heap.size, 0, none⟩) HBL.out).trans b0
        clear hpv hb4 e7
        refine hK _ _ ?_
        clear hK K
        refine wpAnyIn_ready (rs := [5]) (by kernel_rfl) (by simp) (AllReadyIn.cons rfl (fun K hK => ?_) AllReadyIn.nil)
        have b5 : (W4.alloc (.cells #[.slice A7 x.1.2.1.length c7, .slice A8 x.1.2.2.length c8] 93)).cell? ⟨w.heap.size, 0, none⟩ = some (.slice Av qs.length cv) := (((Below.refl W4.heap.size W4).alloc (Nat.le_refl _) _).cell (p := ⟨w.heap.size, 0, none⟩) (Nat.lt_of_lt_of_le HBL.out HB4.out.size)).trans b4
        go_simp
        refine hK _ _ ?_
        clear hK K
        refine wpAnyIn_ready (rs := [6]) (by kernel_rfl) (by simp) (AllReadyIn.cons rfl (fun K hK => ?_) AllReadyIn.nil)
        rw [if_pos (by rfl)]
        refine wpIn_appendP _ _ _ 68 rfl w.heap.size 93 i0 (.agg #[.slice none 0 0, .slice none 0 0]) 2 48 Try.underlying68 hi hz0 hz1 hz2 rfl (by decide) (.slice Av qs.length cv) qs.length _ rfl (World.ownsRow.alloc (HO.out.next HB4.out).row (.cells #[.slice A7 x.1.2.1.length c7, .slice A8 x.1.2.2.length c8] 93)) ⟨W4.heap.size, 0, none⟩ 1 1 [.slice A7 x.1.2.1.length c7, .slice A8 x.1.2.2.length c8] rfl rfl (fun j u h => cell_lit W4 #[.slice A7 x.1.2.1.length c7, .slice A8 x.1.2.2.length c8] 93 j u h) (by simp [Value.oneCell']) (by have := HQL.out; have := HPL.out; omega) (by have := HQL.out; have := HPL.out; omega) (by have := HLD.out.size; have := HB4.out.size; simp; omega) ?_
        intro v6 w6 hown hgrow _
        obtain ⟨g6, cap6, rfl⟩ := ownsRow_succ hown
        have HST := Lib.hid (dmid_step (n := w4.heap.size) HV.out HO.out HLD.out (Nat.le_refl _) HB4.out HPV.out hown hgrow ⟨g6, cap6, rfl⟩ HQ.out)
        have h6 := (row_step (n := 0) HV.out HO.out HLD.out (by omega) HB4.out HPV.out hown hgrow ⟨g6, cap6, rfl⟩).1
        have y0 := h6.cell
        have y1 := h6.frozen
        clear hown hgrow h6
        refine hK _ _ ?_
        clear hK K
        refine wpAnyIn_ready (rs := [7]) (by kernel_rfl) (by simp) (AllReadyIn.cons rfl (fun K hK => ?_) AllReadyIn.nil)
        go_simp
        refine hK _ _ ?_
        clear hK K
        refine wpAnyIn_done (by kernel_rfl) ?_ _
        gi_wp2
        exact ⟨HK0.out.trans HST.out.1, HK1.out.trans HST.out.2.1, HST.out.2.2⟩
      ·
        go_simp
        refine hK _ _ ?_
        clear hK K
        refine wpAnyIn_ready (rs := [0, 3]) (by kernel_rfl) (by simp) (AllReadyIn.cons rfl (fun K hK => ?_) (AllReadyIn.cons rfl (fun K hK => ?_) AllReadyIn.nil))
        ·
          go_simp
          refine hK _ _ ?_
          clear hK K
          refine wpAnyIn_ready (rs := [3]) (by kernel_rfl) (by simp) (AllReadyIn.cons rfl (fun K hK => ?_) AllReadyIn.nil)
          go_simp
          refine hK _ _ ?_
          clear hK K
          refine wpAnyIn_ready (rs := [4]) (by kernel_rfl) (by simp) (AllReadyIn.cons rfl (fun K hK => ?_) AllReadyIn.nil)
          go_simp
          refine ⟨wide_deep _, (CallsIn.inRound lp (callsIn_wide.2 HOW.out)).mono ?_⟩
          rintro e W4 ⟨v4, he, hpv, hb4⟩
          obtain ⟨A7, c7, A8, c8, M7, e7, _⟩ := id hpv
          rw [e7] at he hpv
          subst he
          have HPV := Lib.hid hpv
          have HB4 := Lib.hid hb4
          have b4 := (hb4.cell (p := ⟨w.heap.size, 0, none⟩) HBL.out).trans b0
          clear hpv hb4 e7
          refine hK _ _ ?_
          clear hK K
          refine wpAnyIn_ready (rs := [5]) (by kernel_rfl) (by simp) (AllReadyIn.cons rfl (fun K hK => ?_) AllReadyIn.nil)
          have b5 : (W4.alloc (.cells #[.slice A7 x.1.2.1.length c7, .slice A8 x.1.2.2.length c8] 93)).cell? ⟨w.heap.size, 0, none⟩ = some (.slice Av qs.length cv) := (((Below.refl W4.heap.size W4).alloc (Nat.le_refl _) _).cell (p := ⟨w.heap.size, 0, none⟩) (Nat.lt_of_lt_of_le HBL.out HB4.out.size)).trans b4
          go_simp
          refine hK _ _ ?_
          clear hK K
          refine wpAnyIn_ready (rs := [6]) (by kernel_rfl) (by simp) (AllReadyIn.cons rfl (fun K hK => ?_) AllReadyIn.nil)
          rw [if_pos (by rfl)]
          refine wpIn_appendP _ _ _ 68 rfl w.heap.size 93 i0 (.agg #[.slice none 0 0, .slice none 0 0]) 2 48 Try.underlying68 hi hz0 hz1 hz2 rfl (by decide) (.slice Av qs.length cv) qs.length _ rfl (World.ownsRow.alloc (HO.out.next HB4.out).row (.cells #[.slice A7 x.1.2.1.length c7, .slice A8 x.1.2.2.length c8] 93)) ⟨W4.heap.size, 0, none⟩ 1 1 [.slice A7 x.1.2.1.length c7, .slice A8 x.1.2.2.length c8] rfl rfl (fun j u h => cell_lit W4 #[.slice A7 x.1.2.1.length c7, .slice A8 x.1.2.2.length c8] 93 j u h) (by simp [Value.oneCell']) (by have := HQL.out; have := HPL.out; omega) (by have := HQL.out; have := HPL.out; omega) (by have := HLD.out.size; have := HB4.out.size; simp; omega) ?_
          intro v6 w6 hown hgrow _
          obtain ⟨g6, cap6, rfl⟩ := ownsRow_succ hown
          have HST := Lib.hid (dmid_step (n := w4.heap.size) HV.out HO.out HLD.out (Nat.le_refl _) HB4.out HPV.out hown hgrow ⟨g6, cap6, rfl⟩ HQ.out)
          have h6 := (row_step (n := 0) HV.out HO.out HLD.out (by omega) HB4.out HPV.out hown hgrow ⟨g6, cap6, rfl⟩).1
          have y0 := h6.cell
          have y1 := h6.frozen
          clear hown hgrow h6
          refine hK _ _ ?_
          clear hK K
          refine wpAnyIn_ready (rs := [7]) (by kernel_rfl) (by simp) (AllReadyIn.cons rfl (fun K hK => ?_) AllReadyIn.nil)
          go_simp
          refine hK _ _ ?_
          clear hK K
          refine wpAnyIn_done (by kernel_rfl) ?_ _
          gi_wp2
          exact ⟨HK0.out.trans HST.out.1, HK1.out.trans HST.out.2.1, HST.out.2.2⟩
        ·
          go_simp
          refine hK _ _ ?_
          clear hK K
          refine wpAnyIn_ready (rs := [0, 4]) (by kernel_rfl) (by simp) (AllReadyIn.cons rfl (fun K hK => ?_) (AllReadyIn.cons rfl (fun K hK => ?_) AllReadyIn.nil))
          ·
            go_simp
            refine hK _ _ ?_
            clear hK K
            refine wpAnyIn_ready (rs := [4]) (by kernel_rfl) (by simp) (AllReadyIn.cons rfl (fun K hK => ?_) AllReadyIn.nil)
            go_simp
            refine ⟨wide_deep _, (CallsIn.inRound lp (callsIn_wide.2 HOW.out)).mono ?_⟩
            rintro e W4 ⟨v4, he, hpv, hb4⟩
            obtain ⟨A7, c7, A8, c8, M7, e7, _⟩ := id hpv
            rw [e7] at he hpv
            subst he
            have HPV := Lib.hid hpv
            have HB4 := Lib.hid hb4
            have b4 := (hb4.cell (p := ⟨w.heap.size, 0, none⟩) HBL.out).trans b0
            clear hpv hb4 e7
            refine hK _ _ ?_
            clear hK K
            refine wpAnyIn_ready (rs := [5]) (by kernel_rfl) (by simp) (AllReadyIn.cons rfl (fun K hK => ?_) AllReadyIn.nil)
            have b5 : (W4.alloc (.cells #[.slice A7 x.1.2.1.length c7, .slice A8 x.1.2.2.length c8] 93)).cell? ⟨w.heap.size, 0, none⟩ = some (.slice Av qs.length cv) := (((Below.refl W4.heap.size W4).alloc (Nat.le_refl _) _).cell (p := ⟨w.heap.size, 0, none⟩) (Nat.lt_of_lt_of_le HBL.out HB4.out.size)).trans b4
            go_simp
            refine hK _ _ ?_
            clear hK K
            refine wpAnyIn_ready (rs := [6]) (by kernel_rfl) (by simp) (AllReadyIn.cons rfl (fun K hK => ?_) AllReadyIn.nil)
            rw [if_pos (by rfl)]
            refine wpIn_appendP _ _ _ 68 rfl w.heap.size 93 i0 (.agg #[.slice none 0 0, .slice none 0 0]) 2 48 Try.underlying68 hi hz0 hz1 hz2 rfl (by decide) (.slice Av qs.length cv) qs.length _ rfl (World.ownsRow.alloc (HO.out.next HB4.out).row (.cells #[.slice A7 x.1.2.1.length c7, .slice A8 x.1.2.2.length c8] 93)) ⟨W4.heap.size, 0, none⟩ 1 1 [.slice A7 x.1.2.1.length c7, .slice A8 x.1.2.2.length c8] rfl rfl (fun j u h => cell_lit W4 #[.slice A7 x.1.2.1.length c7, .slice A8 x.1.2.2.length c8] 93 j u h) (by simp [Value.oneCell']) (by have := HQL.out; have := HPL.out; omega) (by have := HQL.out; have := HPL.out; omega) (by have := HLD.out.size; have := HB4.out.size; simp; omega) ?_
            intro v6 w6 hown hgrow _
            obtain ⟨g6, cap6, rfl⟩ := ownsRow_succ hown
            have HST := Lib.hid (dmid_step (n := w4.heap.size) HV.out HO.out HLD.out (Nat.le_refl _) HB4.out HPV.out hown hgrow ⟨g6, cap6, rfl⟩ HQ.out)
            have h6 := (row_step (n := 0) HV.out HO.out HLD.out (by omega) HB4.out HPV.out hown hgrow ⟨g6, cap6, rfl⟩).1
            have y0 := h6.cell
            have y1 := h6.frozen
            clear hown hgrow h6
            refine hK _ _ ?_
            clear hK K
            refine wpAnyIn_ready (rs := [7]) (by kernel_rfl) (by simp) (AllReadyIn.cons rfl (fun K hK => ?_) AllReadyIn.nil)
            go_simp
            refine hK _ _ ?_
            clear hK K
            refine wpAnyIn_done (by kernel_rfl) ?_ _
            gi_wp2
            exact ⟨HK0.out.trans HST.out.1, HK1.out.trans HST.out.2.1, HST.out.2.2⟩
          ·
            go_simp
            refine ⟨wide_deep _, (CallsIn.inRound lp (callsIn_wide.2 HOW.out)).mono ?_⟩
            rintro e W4 ⟨v4, he, hpv, hb4⟩
            obtain ⟨A7, c7, A8, c8, M7, e7, _⟩ := id hpv
            rw [e7] at he hpv
            subst he
            have HPV := Lib.hid hpv
            have HB4 := Lib.hid hb4
            have b4 := (hb4.cell (p := ⟨w.heap.size, 0, none⟩) HBL.out).trans b0
            clear hpv hb4 e7
            refine hK _ _ ?_
            clear hK K
            refine wpAnyIn_ready (rs := [0, 5]) (by kernel_rfl) (by simp) (AllReadyIn.cons rfl (fun K hK => ?_) (AllReadyIn.cons rfl (fun K hK => ?_) AllReadyIn.nil))
            ·
              go_simp
              refine hK _ _ ?_
              clear hK K
              refine wpAnyIn_ready (rs := [5]) (by kernel_rfl) (by simp) (AllReadyIn.cons rfl (fun K hK => ?_) AllReadyIn.nil)
              have b5 : (W4.alloc (.cells #[.slice A7 x.1.2.1.length c7, .slice A8 x.1.2.2.length c8] 93)).cell? ⟨w.heap.size, 0, none⟩ = some (.slice Av qs.length cv) := (((Below.refl W4.heap.size W4).alloc (Nat.le_refl _) _).cell (p := ⟨w.heap.size, 0, none⟩) (Nat.lt_of_lt_of_le HBL.out HB4.out.size)).trans b4
              go_simp
              refine hK _ _ ?_
              clear hK K
              refine wpAnyIn_ready (rs := [6]) (by kernel_rfl) (by simp) (AllReadyIn.cons rfl (fun K hK => ?_) AllReadyIn.nil)
              rw [if_pos (by rfl)]
              refine wpIn_appendP _ _ _ 68 rfl w.heap.size 93 i0 (.agg #[.slice none 0 0, .slice none 0 0]) 2 48 Try.underlying68 hi hz0 hz1 hz2 rfl (by decide) (.slice Av qs.length cv) qs.length _ rfl (World.ownsRow.alloc (HO.out.next HB4.out).row (.cells #[.slice A7 x.1.2.1.length c7, .slice A8 x.1.2.2.length c8] 93)) ⟨W4.heap.size, 0, none⟩ 1 1 [.slice A7 x.1.2.1.length c7, .slice A8 x.1.2.2.length c8] rfl rfl (fun j u h => cell_lit W4 #[.slice A7 x.1.2.1.length c7, .slice A8 x.1.2.2.length c8] 93 j u h) (by simp [Value.oneCell']) (by have := HQL.out; have := HPL.out; omega) (by have := HQL.out; have := HPL.out; omega) (by have := HLD.out.size; have := HB4.out.size; simp; omega) ?_
              intro v6 w6 hown hgrow _
              obtain ⟨g6, cap6, rfl⟩ := ownsRow_succ hown
              have HST := Lib.hid (dmid_step (n := w4.heap.size) HV.out HO.out HLD.out (Nat.le_refl _) HB4.out HPV.out hown hgrow ⟨g6, cap6, rfl⟩ HQ.out)
              have h6 := (row_step (n := 0) HV.out HO.out HLD.out (by omega) HB4.out HPV.out hown hgrow ⟨g6, cap6, rfl⟩).1
              have y0 := h6.cell
              have y1 := h6.frozen
              clear hown hgrow h6
              refine hK _ _ ?_
              clear hK K
              refine wpAnyIn_ready (rs := [7]) (by kernel_rfl) (by simp) (AllReadyIn.cons rfl (fun K hK => ?_) AllReadyIn.nil)
              go_simp
              refine hK _ _ ?_
              clear hK K
              refine wpAnyIn_done (by kernel_rfl) ?_ _
              gi_wp2
              exact ⟨HK0.out.trans HST.out.1, HK1.out.trans HST.out.2.1, HST.out.2.2⟩
            ·
              have b5 : (W4.alloc (.cells #[.slice A7 x.1.2.1.length c7, .slice A8 x.1.2.2.length c8] 93)).cell? ⟨w.heap.size, 0, none⟩ = some (.slice Av qs.length cv) := (((Below.refl W4.heap.size W4).alloc (Nat.le_refl _) _).cell (p := ⟨w.heap.size, 0, none⟩) (Nat.lt_of_lt_of_le HBL.out HB4.out.size)).trans b4
              go_simp
              refine hK _ _ ?_
              clear hK K
              refine wpAnyIn_ready (rs := [0]) (by kernel_rfl) (by simp) (AllReadyIn.cons rfl (fun K hK => ?_) AllReadyIn.nil)
              go_simp
              refine hK _ _ ?_
              clear hK K
              refine wpAnyIn_ready (rs := [6]) (by kernel_rfl) (by simp) (AllReadyIn.cons rfl (fun K hK => ?_) AllReadyIn.nil)
              rw [if_pos (by rfl)]
              refine wpIn_appendP _ _ _ 68 rfl w.heap.size 93 i0 (.agg #[.slice none 0 0, .slice none 0 0]) 2 48 Try.underlying68 hi hz0 hz1 hz2 rfl (by decide) (.slice Av qs.length cv) qs.length _ rfl (World.ownsRow.alloc (HO.out.next HB4.out).row (.cells #[.slice A7 x.1.2.1.length c7, .slice A8 x.1.2.2.length c8] 93)) ⟨W4.heap.size, 0, none⟩ 1 1 [.slice A7 x.1.2.1.length c7, .slice A8 x.1.2.2.length c8] rfl rfl (fun j u h => cell_lit W4 #[.slice A7 x.1.2.1.length c7, .slice A8 x.1.2.2.length c8] 93 j u h) (by simp [Value.oneCell']) (by have := HQL.out; have := HPL.out; omega) (by have := HQL.out; have := HPL.out; omega) (by have := HLD.out.size; have := HB4.out.size; simp; omega) ?_
              intro v6 w6 hown hgrow _
              obtain ⟨g6, cap6, rfl⟩ := ownsRow_succ hown
              have HST := Lib.hid (dmid_step (n := w4.heap.size) HV.out HO.out HLD.out (Nat.le_refl _) HB4.out HPV.out hown hgrow ⟨g6, cap6, rfl⟩ HQ.out)
              have h6 := (row_step (n := 0) HV.out HO.out HLD.out (by omega) HB4.out HPV.out hown hgrow ⟨g6, cap6, rfl⟩).1
              have y0 := h6.cell
              have y1 := h6.frozen
              clear hown hgrow h6
              refine hK _ _ ?_
              clear hK K
              refine wpAnyIn_ready (rs := [7]) (by kernel_rfl) (by simp) (AllReadyIn.cons rfl (fun K hK => ?_) AllReadyIn.nil)
              go_simp
              refine hK _ _ ?_
              clear hK K
              refine wpAnyIn_done (by kernel_rfl) ?_ _
              gi_wp2
              exact ⟨HK0.out.trans HST.out.1, HK1.out.trans HST.out.2.1, HST.out.2.2⟩
  case done =>
    rintro D ys W hD rfl hM hK
    obtain ⟨v, qs, hv, ho, hq⟩ := hM.row
    obtain ⟨Av, cv, rfl⟩ := ho.form
    have b0 := hv.cell
    have HQ : Hid (qs.map (·.1) = diffL t.list t2.list) := by show _ = _; rw [hq, unQ_map t2 ps gR, tb_list hps]
    have HO := Lib.hid (ho.kept (grownBy_putObj' W D (.deferred none)) (fun r e => by injection e with e; subst e; exact ⟨_, hK, rfl⟩))
    have HE := Lib.hid (hM.low.trans (belowK_b (w := w4) (n₀ := w.heap.size) (by omega) W D _ (.deferred none) hD hK rfl rfl))
    clear hM hv ho hq hz3 hz4
    gi_wp2
    refine ⟨by simp, .inl ⟨_, _, rfl, run_takeDeferred hK, ?_⟩⟩
    exact ⟨_, results_tmp rfl _ _ _, by exact ⟨_, qs, rfl, HO.out, HQ.out, HE.out⟩⟩
  case stop =>
    rintro D cd pre W hD hsp hF hK
    exact hF.elim
theorem diffM_any [LT Gb] {v v2 : Value} {L L2 : List Pr} (w : World) (h : TreeV w v L) (hh : TreeV w v2 L2) :
    Calls Try.prog 21 #[v, v2] w fun e w' => ∃ v' qs, e = .returned v' ∧ OwnQ w' w.heap.size v' qs ∧ qs.map (·.1) = diffL L L2 ∧ Below w.heap.size w w' :=
  (callsIn_wide (n := 9)).1 (diff_in 9 (Nat.le_of_ble_eq_true rfl) w h hh)
end Go.Proofs.Ytohpilamoglhcaa
