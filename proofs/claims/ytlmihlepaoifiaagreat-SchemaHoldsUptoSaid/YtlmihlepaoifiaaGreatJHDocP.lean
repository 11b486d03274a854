import Derived.Maps.OwnIn
import Derived.Test.YtlmihlepaoifiaaGreatJHMap
import Derived.Test.YtlmihlepaoifiaaGreatJAFCut
import Derived.Laws.EntriesVeiled
import Derived.Test.YtlmihlepaoifiaaGreatJHRows
/-
  CONTRACT: the program's Of.
-/
namespace Go.Proofs.YtlmihlepaoifiaaGreat
open Go.RowKit Go.Shelf Go.Maps
attribute [local go_sem] Oper.semAt_some

theorem results_cell_two {fn : Func} {p q : Tmp} {ty ty' : TypeId} (h : fn.results = #[.cell p ty, .cell q ty']) (tmps : Array Value) (P : Program) (w : World) :
    (results fn tmps).run P w = ((asAddr (tmps.getD p undef)).run P w).andThen fun a w₁ => ((loadVar ty a).run P w₁).andThen fun v w₂ => ((asAddr (tmps.getD q undef)).run P w₂).andThen fun a' w₃ => ((loadVar ty' a').run P w₃).andThen fun v' w₄ => .ok (.tuple #[v, v']) w₄ := by
  simp only [results, h]
  simp [Sem.run_bind]
theorem res_two {W : World} {fn : Func} (hfn : fn.results = #[.cell 2 32, .cell 3 24]) {b2 b3 : Nat} {v : Value} {ec : Int} (tmps : Array Value) (h2 : Boxed W b2 32 v) (h3 : Boxed W b3 24 (.int .i64 ec)) (t2 : tmps.getD 2 undef = .pointer (some ⟨b2, 0, none⟩)) (t3 : tmps.getD 3 undef = .pointer (some ⟨b3, 0, none⟩)) :
    (results fn tmps).run Tryz.prog W = .ok (.tuple #[v, .int .i64 ec]) W := by
  have a0 := h2.cell
  have a1 := h3.cell
  rw [results_cell_two hfn, t2, t3]
  go_simp
set_option maxRecDepth 100000 in
set_option maxHeartbeats 2000000 in
/-- Of, of facts that may not be. -/
theorem of_bad (m : Nat) (A : Option Addr) (c : Nat) (fs : List FactP) (w : World) (hs : FVa w (.slice A fs.length c) fs) (hl : fs.length ≤ 1954687338268) (hz : ∀ f ∈ fs, f.s.size ≤ maxLen ∧ f.l.length ≤ 9223372036854775807) (hmay : mayFs fs = false) :
    CallsIn Fence.wide m Tryz.prog 7 #[.slice A fs.length c] w (OfR w fs) := by
  obtain ⟨w1, hw1⟩ : ∃ w1, (w.alloc (.cells #[.slice none 0 0] 32)).alloc (.cells #[.int .i64 0] 24) = w1 := ⟨_, rfl⟩
  have HB1 : Hid (Below w.heap.size w w1) := by show Below _ _ _; rw [← hw1]; exact ((Below.refl _ _).alloc (Nat.le_refl _) _).alloc (by simp) _
  have h2 : Boxed w1 w.heap.size 32 (.slice none 0 0) := by rw [← hw1]; exact (Boxed.new _ _ _).alloc _
  have h3 : Boxed w1 (w.heap.size + 1) 24 (.int .i64 0) := by
    rw [← hw1]
    have := Boxed.new (w.alloc (.cells #[.slice none 0 0] 32)) 24 (.int .i64 0)
    rwa [World.size_alloc] at this
  have HC := Lib.hid (checkF_big A c fs w1 (hs.next HB1.out) (by omega) (fun f hf => ⟨(hz f hf).1, by have := (hz f hf).2; omega⟩))
  rw [hmay] at HC
  have HE : Hid (resL fs = [] ∧ attsE fs = 60) := by
    have h60 : attsE fs = 60 := by unfold attsE; rw [hmay]; rfl
    refine ⟨?_, h60⟩
    unfold resL
    rw [h60]
    rfl
  have H2 := Lib.hid h2
  have H3 := Lib.hid h3
  clear hs hl hz hmay h2 h3
  refine callsIn_of_wp_marks Tryz.func7 rfl trivial ?_ rfl
  simp only [Tryz.ntmps7, List.size_toArray, List.length_cons, List.length_nil, Nat.reduceAdd, Nat.reduceSub, Array.replicate_succ, Array.replicate_zero, List.push_toArray, List.append_toArray, List.nil_append, List.cons_append]
  gi_wp2_with fail
  clear hw1
  refine ⟨trivial, wide_deep _, ?_⟩
  refine (callsIn_wide.2 HC.out).mono ?_
  rintro e w2 ⟨rfl, hb2⟩
  have HB2 := Lib.hid (HB1.out.trans (hb2.mono HB1.out.size))
  have f2 : Boxed w2 w.heap.size 32 (.slice none 0 0) := (hb2.block _ H2.out.lt).trans H2.out
  have f3 : Boxed w2 (w.heap.size + 1) 24 (.int .i64 0) := (hb2.block _ H3.out.lt).trans H3.out
  have a0 := f2.cell
  have a1 := f3.cell
  have a2 := f2.frozen
  have a3 := f3.frozen
  have F2 := Lib.hid f2
  have F3 := Lib.hid f3
  clear hb2 f2 f3 HC
  gi_wp2_with fail
  have g2 : Boxed ((w2.setCell ⟨w.heap.size, 0, none⟩ (.slice none 0 0)).setCell ⟨w.heap.size + 1, 0, none⟩ (.int .i64 60)) w.heap.size 32 (.slice none 0 0) := (F2.out.set _).other (by omega) _
  have g3 : Boxed ((w2.setCell ⟨w.heap.size, 0, none⟩ (.slice none 0 0)).setCell ⟨w.heap.size + 1, 0, none⟩ (.int .i64 60)) (w.heap.size + 1) 24 (.int .i64 60) := (F3.out.other (by omega) _).set _
  exact ⟨_, res_two rfl _ g2 g3 rfl rfl, ⟨none, 0, by rw [HE.out.1, HE.out.2]; rfl, by rw [HE.out.1]; exact fun h => absurd rfl h⟩, (HB2.out.setCell (p := ⟨w.heap.size, 0, none⟩) (Nat.le_refl _) _).setCell (p := ⟨w.heap.size + 1, 0, none⟩) (Nat.le_succ _) _⟩

set_option maxRecDepth 100000 in
theorem attrs_any (A : Option Addr) (n c : Nat) (w : World) : Calls Tryz.prog 14 #[.slice A n c] w fun e w' =>
    e = .returned (.func (.func 44) #[] #[.pointer (some ⟨w.heap.size, 0, none⟩)]) ∧ w' = w.alloc (.cells #[.slice A n c] 22) := by
  go_enter Tryz.func14, Tryz.ntmps14
  go_wp2
  go_ret
  exact ⟨rfl, rfl⟩
theorem zeroI6 (w : World) : (zeroValue 2).run Tryz.prog w = .ok (.int .i64 0) w := by kernel_rfl

set_option maxRecDepth 100000 in
set_option maxHeartbeats 4000000 in
/-- Of, of facts that may be. -/
theorem of_good (m : Nat) (hm3 : Hid (9 ≤ m)) (A : Option Addr) (c : Nat) (fs : List FactP) (w : World) (hs : FVa w (.slice A fs.length c) fs) (hl : fs.length ≤ 1954687338268) (hz : ∀ f ∈ fs, f.s.size ≤ maxLen ∧ f.l.length ≤ 9223372036854775807) (hmay : mayFs fs = true) :
    CallsIn Fence.wide m Tryz.prog 7 #[.slice A fs.length c] w (OfR w fs) := by
  obtain ⟨i0, hi, hz0, hz1, hz2⟩ := info_parts infoA
  have hmm := @run_makeMap Tryz.prog
  have hmx : 3000000000000 ≤ maxLen := by decide
  obtain ⟨rs, hr⟩ := runsE_any fs.length fs (Nat.le_refl _)
  obtain ⟨T, hT⟩ : ∃ T, attsL fs = T := ⟨_, rfl⟩
  have HTR : Hid (T = builtL ++ rs.filterMap madeR) := by show _ = _; rw [← hT]; exact atts_runs hmay hr
  have HTL : Hid (T.length ≤ 1954687338275) := by show _ ≤ _; rw [← hT]; have := atts_len fs; omega
  have HTN : Hid (∀ a ∈ T, a.nm.size ≤ maxLen) := by show ∀ _, _; rw [← hT]; exact atts_nm fun f hf => (hz f hf).1
  have HRS := Lib.hid hr
  have HE0 : Hid (oneName T → resL fs = T ∧ attsE fs = 0) := fun h => by
    have h60 : attsE fs = 0 := by unfold attsE; rw [hmay, if_pos rfl, hT, if_pos h]
    refine ⟨?_, h60⟩
    unfold resL
    rw [if_pos h60, hT]
  have HE7 : Hid (¬ oneName T → resL fs = [] ∧ attsE fs = 70) := fun h => by
    have h60 : attsE fs = 70 := by unfold attsE; rw [hmay, if_pos rfl, hT, if_neg h]
    refine ⟨?_, h60⟩
    unfold resL
    rw [h60]
    rfl
  have HTS := Lib.hid hT
  obtain ⟨w1, hw1⟩ : ∃ w1, (w.alloc (.cells #[.slice none 0 0] 32)).alloc (.cells #[.int .i64 0] 24) = w1 := ⟨_, rfl⟩
  have HB1 : Hid (Below w.heap.size w w1) := by show Below _ _ _; rw [← hw1]; exact ((Below.refl _ _).alloc (Nat.le_refl _) _).alloc (by simp) _
  have h2 : Boxed w1 w.heap.size 32 (.slice none 0 0) := by rw [← hw1]; exact (Boxed.new _ _ _).alloc _
  have h3 : Boxed w1 (w.heap.size + 1) 24 (.int .i64 0) := by
    rw [← hw1]
    have := Boxed.new (w.alloc (.cells #[.slice none 0 0] 32)) 24 (.int .i64 0)
    rwa [World.size_alloc] at this
  have HC := Lib.hid (checkF_big A c fs w1 (hs.next HB1.out) (by omega) (fun f hf => ⟨(hz f hf).1, by have := (hz f hf).2; omega⟩))
  rw [hmay, if_pos rfl] at HC
  have H2 := Lib.hid h2
  have H3 := Lib.hid h3
  have HS := Lib.hid hs
  clear hs hz hmay h2 h3 hr hT
  refine callsIn_of_wp_marks Tryz.func7 rfl trivial ?_ rfl
  simp only [Tryz.ntmps7, List.size_toArray, List.length_cons, List.length_nil, Nat.reduceAdd, Nat.reduceSub, Array.replicate_succ, Array.replicate_zero, List.push_toArray, List.append_toArray, List.nil_append, List.cons_append]
  gi_wp2_with fail
  clear hw1
  refine ⟨trivial, wide_deep _, ?_⟩
  refine (callsIn_wide.2 HC.out).mono ?_
  rintro e w2 ⟨rfl, hb2⟩
  have HB2 := Lib.hid (HB1.out.trans (hb2.mono HB1.out.size))
  have F2 : Hid (Boxed w2 w.heap.size 32 (.slice none 0 0)) := (hb2.block _ H2.out.lt).trans H2.out
  have F3 : Hid (Boxed w2 (w.heap.size + 1) 24 (.int .i64 0)) := (hb2.block _ H3.out.lt).trans H3.out
  clear hb2 HC H2 H3
  gi_wp2_with fail
  refine ⟨trivial, wide_deep _, ?_⟩
  obtain ⟨w3, hw3⟩ : ∃ w3, ((w2.alloc (.cells #[.slice none 0 0] 32)).alloc (.map #[] 0)).alloc (.cells #[.map (some (w2.heap.size + 1))] 48) = w3 := ⟨_, rfl⟩
  have hz3 : w3.heap.size = w2.heap.size + 3 := by rw [← hw3]; simp
  have HB3 : Hid (Below w2.heap.size w2 w3) := by show Below _ _ _; rw [← hw3]; exact (((Below.refl _ _).alloc (Nat.le_refl _) _).alloc (by simp) _).alloc (by simp; omega) _
  have HA3 : Hid (Boxed w3 w2.heap.size 32 (.slice none 0 0)) := by show Boxed _ _ _ _; rw [← hw3]; exact ((Boxed.new _ _ _).alloc _).alloc _
  have HN3 : Hid (Boxed w3 (w2.heap.size + 1 + 1) 48 (.map (some (w2.heap.size + 1)))) := by
    show Boxed _ _ _ _
    rw [← hw3]
    have := Boxed.new ((w2.alloc (.cells #[.slice none 0 0] 32)).alloc (.map #[] 0)) 48 (.map (some (w2.heap.size + 1)))
    rwa [World.size_alloc, World.size_alloc] at this
  have HM3 : Hid (w3.ownsMap (H := Unit) Tryz.prog 9 anyE (w2.heap.size + 1) 0 (setN [])) := by
    show World.ownsMap _ _ _ _ _ _ _
    rw [← hw3]
    have := World.ownsMap_made (H := Unit) (w2.alloc (.cells #[.slice none 0 0] 32)) Tryz.prog 9 anyE
    rw [World.size_alloc] at this
    exact this.alloc _
  rw [hw3]
  have HZ3 := Lib.hid hz3
  clear hw3
  refine (callsIn_wide.2 (attrs_any _ _ _ _)).mono ?_
  rintro e w4 ⟨rfl, hw4⟩
  have hz4 : w4.heap.size = w3.heap.size + 1 := by rw [hw4]; simp
  have HB4 : Hid (Below w3.heap.size w3 w4) := by show Below _ _ _; rw [hw4]; exact (Below.refl _ _).alloc (Nat.le_refl _) _
  have hbl : Boxed w4 w3.heap.size 22 (.slice A fs.length c) := by rw [hw4]; exact Boxed.new _ _ _
  clear hw4
  have hB := HB2.out.size
  have HBW : Hid (Below w.heap.size w w4) := (HB2.out.trans (HB3.out.mono hB)).trans (HB4.out.mono (by omega))
  have hbA4 : Boxed w4 w2.heap.size 32 (.slice none 0 0) := (HB4.out.block _ (by omega)).trans HA3.out
  have HMID : Hid (NMid w w4.heap.size w.heap.size (w.heap.size + 1) w2.heap.size (w2.heap.size + 1 + 1) (w2.heap.size + 1) T [] w4) := by
    refine ⟨Nat.le_refl _, HBW.out, ⟨_, hbA4, World.ownsRow_nil _ _ _ _⟩, ?_, ?_, ?_, ?_, ?_⟩
    · exact (HB4.out.block _ (by have := F2.out.lt; omega)).trans ((HB3.out.block _ F2.out.lt).trans F2.out)
    · exact (HB4.out.block _ (by have := F3.out.lt; omega)).trans ((HB3.out.block _ F3.out.lt).trans F3.out)
    · exact (HB4.out.block _ (by omega)).trans HN3.out
    · exact ownsMap_below HM3.out HB4.out (by omega)
    · unfold oneName; exact List.Pairwise.nil
  have HF2 := Lib.hid F2.out.lt
  have HF3 := Lib.hid F3.out.lt
  have HZ4 := Lib.hid hz4
  clear hz3 hz4
  gi_wp2_with fail
  have hz3 := HZ3.out
  have hz4 := HZ4.out
  have hro : Fence.wide.round = none := rfl
  have hf2 := HF2.out
  have hf3 := HF3.out
  refine wpIn_rangeFunc_ownH hro (by have := hm3.out; omega) (gf := 44) (lb := #[.pointer (some ⟨w3.heap.size, 0, none⟩)]) rfl trivial (enters_of Tryz.func44 (by kernel_rfl) rfl)
    (iter_stops (m - 1) w2.heap.size w3.heap.size A c fs T w w4 rs HBW.out HS.out (by omega) HRS.out HTR.out hbl hbA4 (by omega))
    (fun h k => h.trans k) (fun W lp o o' hl h hc _ => kpA_put (M := w4.heap.size) (by have := HBW.out.size; omega) (by omega) W lp o' hl h hc) (Below.refl _ _) (fun _ => rfl)
    (NMid w w4.heap.size w.heap.size (w.heap.size + 1) w2.heap.size (w2.heap.size + 1 + 1) (w2.heap.size + 1) T) (NStop w w.heap.size (w.heap.size + 1) T) (nMid_own T (by have := HBW.out.size; omega) (by omega) (by omega) (by omega) (by omega) (by omega)) (fun cd => nStop_own T (by have := HBW.out.size; omega) (by omega) (by omega) cd)
    HMID.out
    (fun x a' W => ∃ g, w4.heap.size ≤ g ∧ BxA W g T[x.val] ∧ a' = { tmps := #[.slice A fs.length c, undef, .pointer (some ⟨w.heap.size, 0, none⟩), .pointer (some ⟨w.heap.size + 1, 0, none⟩), .int .i64 0, .pointer (some ⟨w2.heap.size, 0, none⟩), .pointer (some ⟨w2.heap.size + 1 + 1, 0, none⟩), .pointer (some ⟨g, 0, none⟩), undef, undef, .slice A fs.length c, .int .i64 0, .int .i64 0, .bool false, undef, .map (some (w2.heap.size + 1)), .slice A fs.length c, .func (.func 44) #[] #[.pointer (some ⟨w3.heap.size, 0, none⟩)], attV T[x.val], undef, undef, undef, undef, undef, undef, undef, undef, undef, undef, undef, undef, undef, undef, undef, undef, undef, undef], defers := [] })
    (fun x a' _ X Y row ⟨g, hg1, hg2, e⟩ hgr hr => ⟨g, hg1, (hgr.block g (Array.getElem?_eq_some_iff.1 hg2).1 (fun e => by obtain ⟨o, ho, hn⟩ := (hr g e.symm).2; unfold BxA at hg2; rw [hg2] at ho; cases ho; cases hn)).trans hg2, e⟩) ?assign ?body ?done ?stop
  case assign =>
    clear hz3 hz4
    rintro lp pre x W K hM hK
    have HK9 := Lib.hid @hK
    have HM := Lib.hid hM
    clear hK hM
    obtain ⟨d, hd⟩ : ∃ d, T[x.val] = d := ⟨_, rfl⟩
    unfold attV
    simp only [hd]
    have hsz := HM.out.sz
    gi_wp2
    have hw4 := HBW.out.size
    have hz3 := HZ3.out
    have hz4 := HZ4.out
    refine HK9.out _ _ (keepsFrom_below ((Below.refl _ W).alloc (Nat.le_refl _) _)) (kpA_below ((Below.refl _ W).alloc (Nat.le_refl _) _) (by omega) (by omega)) ((nMid_own T (by omega) (by omega) (by omega) (by omega) (by omega) (by omega)).alloc _ HM.out) ⟨W.heap.size, hsz, by rw [hd]; exact bxA_new W d, by rw [hd]; rfl⟩
  case body =>
    clear hz3 hz4
    rintro lp pre x a' W hwl hrec hM ⟨g, hgz, hg, rfl⟩ hlt
    obtain ⟨d, hd⟩ : ∃ d, T[x.val] = d := ⟨_, rfl⟩
    have HD := Lib.hid hd
    have HDN : Hid (d.nm.size ≤ maxLen) := by show _ ≤ _; rw [← hd]; exact HTN.out _ (List.getElem_mem _)
    rw [hd] at hg
    simp only [hd]
    obtain ⟨v, hv, ho⟩ := hM.row
    obtain ⟨L, hL⟩ : ∃ L, preL T pre = L := ⟨_, rfl⟩
    rw [hL] at ho
    have HLL := Lib.hid hL
    have HPL : Hid (L.length = pre.length) := by show _ = _; rw [← hL]; exact preL_len T pre
    have hmp := hM.map
    rw [hL] at hmp
    have HMP := Lib.hid hmp
    have hhas := has_setN (H := Unit) L d
    obtain ⟨tk, htk⟩ : ∃ tk, L.any (fun a => decide (a.nm = d.nm)) = tk := ⟨_, rfl⟩
    rw [htk] at hhas
    have HH : Hid (Maps.has (setN (H := Unit) L) (.string d.nm.data.toList) = tk) := hhas
    have HTK := Lib.hid htk
    have HM := Lib.hid hM
    have HV := Lib.hid hv
    have HO := Lib.hid ho
    have HG := Lib.hid hg
    have HLT := Lib.hid hlt
    have x0 := hg.cell 0
    have x1 := hg.cell 1
    have x2 := hg.cell 2
    have x3 := hg.cell 3
    have x4 := hg.cell 4
    have x5 := hg.cell 5
    have x6 := hg.cell 6
    simp at x0 x1 x2 x3 x4 x5 x6
    have n0 := hM.nb.cell
    clear hd hL hmp hhas htk hM hv ho hg hrec
    cases tk with
    | true =>
      have r0 := HM.out.r2.cell
      have r1 := HM.out.r3.cell
      have r2 := HM.out.r2.frozen
      have r3 := HM.out.r3.frozen
      gi_wp2_with (gi_at_lookup; refine wpListIn_lookup_own_ok _ rfl _ _ 48 rfl 9 2 lawNm Tryz.underlying48 anyE (zeroI6 _) (.agg []) [] rfl (w2.heap.size + 1) pre.length (setN L) rfl HMP.out _ _ rfl (keyOf_nm HDN.out) ?_; rw [HH.out]; intro v9 ps9 _)
      exact ⟨(keepsFrom_set (p := ⟨w.heap.size, 0, none⟩) HM.out.r2 _).trans (keepsFrom_set (p := ⟨w.heap.size + 1, 0, none⟩) (HM.out.r3.other (by omega) _) _), ⟨(HM.out.low.setCell (p := ⟨w.heap.size, 0, none⟩) (Nat.le_refl _) _).setCell (p := ⟨w.heap.size + 1, 0, none⟩) (Nat.le_succ _) _, (HM.out.r2.set _).other (by omega) _, (HM.out.r3.other (by omega) _).set _, rfl, ⟨pre, x, rfl, by rw [HLL.out, HD.out]; exact HTK.out⟩⟩⟩
    | false =>
      have HGL : Hid (g < W.heap.size) := (Array.getElem?_eq_some_iff.1 HG.out).1
      have HAL := Lib.hid HV.out.lt
      gi_wp2_with (first
        | (gi_at_lookup; refine wpListIn_lookup_own_ok _ rfl _ _ 48 rfl 9 2 lawNm Tryz.underlying48 anyE (zeroI6 _) (.agg []) [] rfl (w2.heap.size + 1) pre.length (setN L) rfl HMP.out _ _ rfl (keyOf_nm HDN.out) ?_; rw [HH.out]; intro v9 ps9 _)
        | (gi_at_mapUpdate; refine wpListIn_mapUpdate_own _ rfl _ _ _ 48 rfl 9 2 lawNm Tryz.underlying48 anyE (w2.heap.size + 1) pre.length (setN L) rfl HMP.out (by have := HLT.out; have := HTL.out; omega) _ _ _ rfl rfl (keyOf_nm HDN.out) (.agg []) [] (anyE_mk _) ?_; intro w5 hown5 hgrow5; have HW5 := Lib.hid hown5; have HR5 := Lib.hid hgrow5; have HK5 : Hid (KpA w.heap.size w2.heap.size W w5) := kpA_map hgrow5 HMP.out (by have := HB2.out.size; omega) (by omega) HAL.out; have HG5 : Hid (BxA w5 g d) := (hgrow5.block g HGL.out (fun e => by injection e with e; have := HZ3.out; have := HZ4.out; omega)).trans HG.out; have HV5 : Hid (Boxed w5 w2.heap.size 32 v) := HV.out.kept hgrow5 (fun e => by injection e with e; omega); have HO5 : Hid (OwnA w5 w.heap.size v L) := HO.out.kept hgrow5 (fun r e => by cases e; obtain ⟨es, clock, hb, _⟩ := HMP.out; exact ⟨_, hb, rfl⟩); clear hown5 hgrow5 x0 x1 x2 x3 x4 x5 x6 n0; have x0 := HG5.out.cell 0; have x1 := HG5.out.cell 1; have x2 := HG5.out.cell 2; have x3 := HG5.out.cell 3; have x4 := HG5.out.cell 4; have x5 := HG5.out.cell 5; have x6 := HG5.out.cell 6; simp at x0 x1 x2 x3 x4 x5 x6; have v0 := HV5.out.cell)
        | (gi_at_builtin; go_loud (refine wpListIn_append_own_at _ rfl _ _ 32 rfl w.heap.size 43 i0 (.agg #[.int .i64 0, .string ⟨#[]⟩, .int .i64 0, .bool false, .int .i64 0, .bool false, .bool false]) 7 56 Tryz.underlying32 hi hz0 hz1 hz2 rfl (by decide) v L.length (L.flatMap cellsA) rfl (World.ownsRow.alloc HO5.out _) ⟨w5.heap.size, 0, none⟩ 1 1 (cellsA d) rfl rfl (litA w5 d) (cellsA_one _) (by have := HPL.out; have := HLT.out; have := HTL.out; omega) (by have := HPL.out; have := HLT.out; have := HTL.out; omega) (by have := HB2.out.size; have := HV5.out.lt; simp; omega) ?_); intro v6 w6 hown6 hgrow6 _ hat6; obtain ⟨g', cap', rfl⟩ := ownsRow_succ hown6; have hst := att_step HV5.out HO5.out (by have := HB2.out.size; have := HV5.out.lt; omega) HB2.out.size hgrow6 hat6 hown6; have HST := Lib.hid hst; have HR6 := Lib.hid hgrow6; clear hown6 hat6 hgrow6; have y0 := hst.1.cell; have y1 := hst.1.frozen; clear hst))
      obtain ⟨_, hb6, hko, hkp, hrw⟩ := HST.out
      have hkw := HK5.out.trans hkp
      have hm6 : some (w2.heap.size + 1) ≠ v.ownBlock := map_not_row HMP.out HO.out
      have hpx : preL T (pre ++ [x]) = L ++ [d] := by rw [preL_snoc, HLL.out, HD.out]
      refine ⟨(KeepsFrom.of_grownBy HR5.out (fun j e => by injection e with e; have := HZ3.out; have := HZ4.out; omega)).trans (hko.from _), hkw, ?_⟩
      refine ⟨Nat.le_trans HM.out.sz hkw.size, HM.out.low.trans hkw.low, ⟨_, hb6, ?_⟩, ?_, ?_, ?_, ?_, ?_⟩
      · rw [hpx]
        show World.ownsRow _ _ _ _ _ _ _
        rw [List.length_append, List.flatMap_append]
        simpa using hrw
      · exact hkw.cells _ _ _ _ HM.out.r2 (by omega) (not_rowAt HV.out HO.out HM.out.r2 (by decide))
      · exact hkw.cells _ _ _ _ HM.out.r3 (by omega) (not_rowAt HV.out HO.out HM.out.r3 (by decide))
      · exact hkw.cells _ _ _ _ HM.out.nb (by omega) (not_rowAt HV.out HO.out HM.out.nb (by decide))
      · rw [hpx, setN_snoc, List.length_append]
        exact ((HW5.out.alloc _).kept HR6.out hm6).setCell (a := ⟨w2.heap.size, 0, none⟩) (by show _ ≠ w2.heap.size; omega) _
      · rw [hpx]
        exact oneName_snoc (by rw [← HLL.out]; exact HM.out.one) HTK.out
  case done =>
    rintro D ys W hD rfl hM hK
    obtain ⟨v, hv, ho⟩ := hM.row
    rw [preL_all] at ho
    have hon := hM.one
    rw [preL_all] at hon
    have HM := Lib.hid hM
    have HO := Lib.hid ho
    have HON := Lib.hid hon
    have HKK := Lib.hid hK
    have a0 := hv.cell
    have r0 := hM.r2.cell
    have r1 := hM.r3.cell
    have r2 := hM.r2.frozen
    have r3 := hM.r3.frozen
    have HV := Lib.hid hv
    clear hM hv hon hK hz3 hz4
    obtain ⟨A1, c1, rfl, _⟩ := ho.form
    clear ho
    gi_wp2
    have hs2 : Boxed (W.setCell ⟨w.heap.size, 0, none⟩ (.slice A1 T.length c1)) (w.heap.size + 1) 24 (.int .i64 0) := HM.out.r3.other (by omega) _
    have ho1 : OwnA (W.setCell ⟨w.heap.size, 0, none⟩ (.slice A1 T.length c1)) w.heap.size (.slice A1 T.length c1) T := World.ownsRow.kept HO.out (grownBy_setCell' W w.heap.size _) (.inr (HM.out.r2.not_row (by decide) HO.out).symm)
    have ho2 : OwnA ((W.setCell ⟨w.heap.size, 0, none⟩ (.slice A1 T.length c1)).setCell ⟨w.heap.size + 1, 0, none⟩ (.int .i64 0)) w.heap.size (.slice A1 T.length c1) T := World.ownsRow.kept ho1 (grownBy_setCell' _ _ _) (.inr (hs2.not_row (by decide) ho1).symm)
    have g2 : Boxed ((W.setCell ⟨w.heap.size, 0, none⟩ (.slice A1 T.length c1)).setCell ⟨w.heap.size + 1, 0, none⟩ (.int .i64 0)) w.heap.size 32 (.slice A1 T.length c1) := (HM.out.r2.set _).other (by omega) _
    have g3 : Boxed ((W.setCell ⟨w.heap.size, 0, none⟩ (.slice A1 T.length c1)).setCell ⟨w.heap.size + 1, 0, none⟩ (.int .i64 0)) (w.heap.size + 1) 24 (.int .i64 0) := hs2.set _
    have hlow : Below w.heap.size w ((W.setCell ⟨w.heap.size, 0, none⟩ (.slice A1 T.length c1)).setCell ⟨w.heap.size + 1, 0, none⟩ (.int .i64 0)) := (HM.out.low.setCell (p := ⟨w.heap.size, 0, none⟩) (Nat.le_refl _) _).setCell (p := ⟨w.heap.size + 1, 0, none⟩) (Nat.le_succ _) _
    have hKn : ((W.setCell ⟨w.heap.size, 0, none⟩ (.slice A1 T.length c1)).setCell ⟨w.heap.size + 1, 0, none⟩ (.int .i64 0)).heap[D]? = some (.deferred (some [])) := (Below.heap_setCell _ _ _ D (by show D ≠ w.heap.size + 1; have := HZ3.out; have := HZ4.out; omega)).trans ((Below.heap_setCell _ _ _ D (by show D ≠ w.heap.size; have := HZ3.out; have := HZ4.out; omega)).trans HKK.out)
    obtain ⟨Wf, hWf⟩ : ∃ Wf, (W.setCell ⟨w.heap.size, 0, none⟩ (.slice A1 T.length c1)).setCell ⟨w.heap.size + 1, 0, none⟩ (.int .i64 0) = Wf := ⟨_, rfl⟩
    rw [hWf] at ho2 g2 g3 hlow hKn ⊢
    have hbD : w4.heap.size ≤ D := hD
    have q2 : Boxed (Wf.putObj D (.deferred none)) w.heap.size 32 (.slice A1 T.length c1) := g2.kept (grownBy_putObj' Wf D _) (by have := HZ3.out; have := HZ4.out; simp; omega)
    have q3 : Boxed (Wf.putObj D (.deferred none)) (w.heap.size + 1) 24 (.int .i64 0) := g3.kept (grownBy_putObj' Wf D _) (by have := HZ3.out; have := HZ4.out; simp; omega)
    have hoF := ho2.kept (grownBy_putObj' Wf D (.deferred none)) (fun r e => by cases e; exact ⟨_, hKn, rfl⟩)
    obtain ⟨A2, c2, e2, hsF, _⟩ := hoF.form
    have hEE := HE0.out HON.out
    refine ⟨by simp, .inl ⟨_, _, rfl, run_takeDeferred hKn, ?_⟩⟩
    exact ⟨_, res_two rfl _ q2 q3 rfl rfl, ⟨A2, c2, by rw [hEE.1, hEE.2, ← e2], by rw [hEE.1]; exact hsF⟩, hlow.trans (belowK_b (w := w4) (n₀ := w.heap.size) (by have := HBW.out.size; omega) Wf D _ (.deferred none) hD hKn rfl rfl)⟩
  case stop =>
    rintro D cd pre W hD hsp hST hK
    obtain ⟨h1, h2, h3, rfl, p, x, rfl, htw⟩ := hST
    have g2 : Boxed (W.putObj D (.deferred none)) w.heap.size 32 (.slice none 0 0) := h2.kept (grownBy_putObj' W D _) (by simp; omega)
    have g3 : Boxed (W.putObj D (.deferred none)) (w.heap.size + 1) 24 (.int .i64 70) := h3.kept (grownBy_putObj' W D _) (by simp; omega)
    have HG2 := Lib.hid g2
    have HG3 := Lib.hid g3
    have HE := Lib.hid (h1.trans (belowK_b (w := w4) (n₀ := w.heap.size) (by omega) W D _ (.deferred none) hD hK rfl rfl))
    have HNO : Hid (¬ oneName T) := fun h => by
      obtain ⟨r, hr⟩ := preL_pre hsp
      rw [preL_snoc, List.append_assoc] at hr
      rw [hr] at h
      exact oneName_two htw h
    have HEE := Lib.hid (HE7.out HNO.out)
    clear h1 h2 h3 g2 g3 htw hsp
    gi_wp2
    refine ⟨by simp, .inl ⟨_, _, rfl, run_takeDeferred hK, ?_⟩⟩
    exact ⟨_, res_two rfl _ HG2.out HG3.out rfl rfl, ⟨none, 0, by rw [HEE.out.1, HEE.out.2]; rfl, by rw [HEE.out.1]; exact fun h => absurd rfl h⟩, HE.out⟩
end Go.Proofs.YtlmihlepaoifiaaGreat

/-
  CONTRACT: Holds.
-/
namespace Go.Proofs.YtlmihlepaoifiaaGreat
open Go.RowKit Go.Shelf Go.Maps

/-- which row facts break, of these attributes -/
noncomputable def rowsE (fs : List FactP) (T : List Att) : Int :=
  if fs.any (a1B T) = true then 71 else if fs.any (a2B T) = true then 72 else if metB kE kA (strF (a3B T) 0 fs) = true then 73 else if metB kA kV (strF (a4B T) 0 fs) = true then 74 else if fs.any a5B = true then 75 else if T.any a6B = true then 76 else 0
noncomputable def holdsE (fs : List FactP) : Int := if attsE fs = 0 then rowsE fs (attsL fs) else attsE fs
noncomputable def rowB (fs : List FactP) (T : List Att) : Nat → Bool
  | 0 => fs.any (a1B T)
  | 1 => fs.any (a2B T)
  | 2 => metB kE kA (strF (a3B T) 0 fs)
  | 3 => metB kA kV (strF (a4B T) 0 fs)
  | 4 => fs.any a5B
  | _ => T.any a6B
theorem rowsE_at {fs : List FactP} {T : List Att} {k : Nat} (hk : k < 6) (h : ∀ q, q < k → rowB fs T q = false) (hv : rowB fs T k = true) : rowsE fs T = 71 + (k : Int) := by
  have h0 : 0 < k → fs.any (a1B T) = false := fun hq => h 0 hq
  have h1 : 1 < k → fs.any (a2B T) = false := fun hq => h 1 hq
  have h2 : 2 < k → metB kE kA (strF (a3B T) 0 fs) = false := fun hq => h 2 hq
  have h3 : 3 < k → metB kA kV (strF (a4B T) 0 fs) = false := fun hq => h 3 hq
  have h4 : 4 < k → fs.any a5B = false := fun hq => h 4 hq
  unfold rowsE
  rcases (show k = 0 ∨ k = 1 ∨ k = 2 ∨ k = 3 ∨ k = 4 ∨ k = 5 by omega) with rfl | rfl | rfl | rfl | rfl | rfl
  · have hv' : fs.any (a1B T) = true := hv
    rw [if_pos hv']; rfl
  · have hv' : fs.any (a2B T) = true := hv
    rw [h0 (by omega), if_neg (by decide), if_pos hv']; rfl
  · have hv' : metB kE kA (strF (a3B T) 0 fs) = true := hv
    rw [h0 (by omega), if_neg (by decide), h1 (by omega), if_neg (by decide), if_pos hv']; rfl
  · have hv' : metB kA kV (strF (a4B T) 0 fs) = true := hv
    rw [h0 (by omega), if_neg (by decide), h1 (by omega), if_neg (by decide), h2 (by omega), if_neg (by decide), if_pos hv']; rfl
  · have hv' : fs.any a5B = true := hv
    rw [h0 (by omega), if_neg (by decide), h1 (by omega), if_neg (by decide), h2 (by omega), if_neg (by decide), h3 (by omega), if_neg (by decide), if_pos hv']; rfl
  · have hv' : T.any a6B = true := hv
    rw [h0 (by omega), if_neg (by decide), h1 (by omega), if_neg (by decide), h2 (by omega), if_neg (by decide), h3 (by omega), if_neg (by decide), h4 (by omega), if_neg (by decide), if_pos hv']; rfl
theorem rowsE_no {fs : List FactP} {T : List Att} (h : ∀ q, q < 6 → rowB fs T q = false) : rowsE fs T = 0 := by
  have h0 : fs.any (a1B T) = false := h 0 (by omega)
  have h1 : fs.any (a2B T) = false := h 1 (by omega)
  have h2 : metB kE kA (strF (a3B T) 0 fs) = false := h 2 (by omega)
  have h3 : metB kA kV (strF (a4B T) 0 fs) = false := h 3 (by omega)
  have h4 : fs.any a5B = false := h 4 (by omega)
  have h5 : T.any a6B = false := h 5 (by omega)
  unfold rowsE
  rw [h0, if_neg (by decide), h1, if_neg (by decide), h2, if_neg (by decide), h3, if_neg (by decide), h4, if_neg (by decide), h5, if_neg (by decide)]
/-- the numbers of attributes -/
theorem docFrom_id {all : List FactP} : ∀ (l : List FactP) (p : Option Int), ∀ a ∈ docFrom all p l, ∃ f ∈ l, a.id = f.e
  | [], _, a, h => by cases h
  | f :: l, p, a, h => by
    rcases List.mem_append.1 (show a ∈ (if p = some f.e then [] else (docL f.e all).toList) ++ docFrom all (some f.e) l from h) with h | h
    · split at h
      · cases h
      · have h := Option.mem_toList.1 h
        unfold docL at h
        split at h
        · cases h
        · cases h
          exact ⟨f, List.mem_cons_self .., rfl⟩
    · obtain ⟨g, hg, e⟩ := docFrom_id l _ a h
      exact ⟨g, List.mem_cons_of_mem _ hg, e⟩
theorem atts_id {fs : List FactP} (hw : ∀ f ∈ fs, WfF f) : ∀ a ∈ attsL fs, (Lit.int .i64 a.id).wf = true := fun a h => by
  rcases List.mem_append.1 h with h | h
  · exact (built_ok a h).id
  · obtain ⟨f, hf, e⟩ := docFrom_id _ _ a h
    rw [e]
    exact (hw f hf).2
theorem may_hold {fs : List FactP} (h : mayFs fs = true) : (∀ f ∈ fs, WfF f) ∧ ∀ f ∈ fs, ∀ s ∈ f.l, s.1 < s.2 := by
  have hm : ∀ f ∈ fs, mayF f = true := (of_decide_eq_true h).1
  refine ⟨fun f hf => ?_, fun f hf s hs => ?_⟩
  · have h1 := hm f hf
    unfold mayF mayD at h1
    simp only [Bool.and_eq_true] at h1
    have e1 := h1.1.1.1.1.1.1
    have e2 := h1.1.1.1.1.1.2
    have e3 : 0 ≤ f.e ∧ f.e < 9007199254740992 := of_decide_eq_true e1
    have e4 : 0 ≤ f.a ∧ f.a < 9007199254740992 := of_decide_eq_true e2
    have hw : ∀ x : Int, 0 ≤ x ∧ x < 9007199254740992 → (Lit.int .i64 x).wf = true := fun x hx => by
      simp [Lit.wf, IntKind.min, IntKind.max, IntKind.bits, IntKind.signed]
      omega
    exact ⟨hw _ e4, hw _ e3⟩
  · have h1 := hm f hf
    unfold mayF at h1
    simp only [Bool.and_eq_true] at h1
    have h2 : SetL f.l := of_decide_eq_true h1.2
    exact h2.2 s hs

/-- a row asked where the row's box lies behind it -/
theorem at_box {W : World} {f : FuncId} {args : Array Value} {o : Obj} {v : Bool} (h : ∀ X, Below W.heap.size W X → Calls Tryz.prog f args X fun e w' => e = .returned (.bool v) ∧ Below X.heap.size X w') : Calls Tryz.prog f args (W.alloc o) fun e w' => e = .returned (.bool v) ∧ Below (W.alloc o).heap.size (W.alloc o) w' := by
  have hb : Below W.heap.size W (W.alloc o) := (Below.refl _ _).alloc (Nat.le_refl _) o
  exact h _ hb
set_option maxRecDepth 100000 in
set_option maxHeartbeats 8000000 in
theorem holds_big (A : Option Addr) (c0 : Nat) (fs : List FactP) (w : World) (hs : FVa w (.slice A fs.length c0) fs) (hl : fs.length ≤ 1000) (hS : sumS fs ≤ 100000) (hO : ∀ f ∈ fs, f.l.length ≤ 1400) (hz : ∀ f ∈ fs, f.s.size ≤ maxLen ∧ f.l.length ≤ 9223372036854775807) (hk : ∀ f ∈ fs, ∀ s ∈ f.l, SpOk s) :
    Calls Tryz.prog 5 #[.slice A fs.length c0] w fun e w' => e = .returned (.int .i64 (holdsE fs)) ∧ Below w.heap.size w w' := by
  have HO := Lib.hid (show Calls Tryz.prog 7 #[.slice A fs.length c0] w (OfR w fs) from (callsIn_wide (n := 9)).1 (by
    cases h : mayFs fs with
    | false => exact of_bad 9 A c0 fs w hs (by omega) hz h
    | true => exact of_good 9 (Nat.le_of_ble_eq_true rfl) A c0 fs w hs (by omega) hz h))
  have HS := Lib.hid hs
  have HTL := Lib.hid (atts_len fs)
  by_cases h0 : attsE fs = 0
  rotate_left
  · have HE : Hid (holdsE fs = attsE fs) := by show _ = _; unfold holdsE; rw [if_neg h0]
    obtain ⟨ec, hec⟩ : ∃ ec, attsE fs = ec := ⟨_, rfl⟩
    have HEC := Lib.hid hec
    rw [hec] at h0
    have hd : (ec != 0) = true := by simp [h0]
    clear hs hz hk hO hec
    go_enter Tryz.func5, Tryz.ntmps5
    go_wp2_with fail
    refine HO.out.mono ?_
    rintro e w1 ⟨⟨A2, c2, rfl, _⟩, hb1⟩
    rw [HEC.out]
    have HB1 := Lib.hid hb1
    clear hb1 HO
    go_wp2
    go_ret
    exact ⟨by rw [HE.out, HEC.out]; rfl, HB1.out⟩
  · have hmay : mayFs fs = true := by
      unfold attsE at h0
      split at h0
      · assumption
      · cases h0
    have HHA : Hid (HoldA fs) := ⟨by omega, hS, hO, (may_hold hmay).1, (may_hold hmay).2, hk⟩
    have HID := Lib.hid (atts_id (may_hold hmay).1)
    have hres : resL fs = attsL fs := by unfold resL; rw [if_pos h0]
    have HRE9 := Lib.hid hres
    have HE : Hid (holdsE fs = rowsE fs (attsL fs)) := by show _ = _; unfold holdsE; rw [if_pos h0]
    have H0 := Lib.hid h0
    clear hs hz hk hO h0 hmay hres
    go_enter Tryz.func5, Tryz.ntmps5
    go_wp2_with fail
    refine HO.out.mono ?_
    rintro e w1 ⟨⟨A2, c2, rfl, hsa⟩, hb1⟩
    rw [H0.out]
    rw [HRE9.out] at hsa ⊢
    have HB1 := Lib.hid hb1
    have HRW := Lib.hid (rows_any A c0 fs A2 c2 (attsL fs) w1 (HS.out.next hb1) hsa (by have := HTL.out; omega) HID.out)
    clear hb1 hsa HO
    go_wp2_with fail
    refine HRW.out.mono ?_
    rintro e w2 ⟨⟨bR, bX, bT, bM, bB, bI, bS, rfl, hsx, hre⟩, hb2⟩
    have HB2 := Lib.hid (HB1.out.trans (hb2.mono HB1.out.size))
    have HSX2 := Lib.hid hsx
    have HRE2 := Lib.hid hre
    clear hsx hre hb2 HRW
    go_wp2
    go_loopg [19] 6 (fun g i wr => ∃ k : Nat, i = .int .i64 k ∧ k + g = 6 ∧ Hid (∀ q, q < k → rowB fs (attsL fs) q = false) ∧ Hid (SixAt wr bR bX bT bB bI bS) ∧ Hid (RowsE wr A c0 fs A2 c2 (attsL fs) bX bT bM bB bI bS) ∧ Hid (Below w.heap.size w wr))
    case atStart => exact ⟨0, rfl, rfl, fun q h => absurd h (by omega), HSX2.out, HRE2.out, HB2.out⟩
    case round =>
      obtain ⟨k, rfl, hk, HN, HSX, HRE, HB⟩ := hrel
      cases gk with
      | zero =>
        obtain rfl : k = 6 := by omega
        have HZ : Hid (rowsE fs (attsL fs) = 0) := rowsE_no HN.out
        go_wp2
        go_ret
        exact ⟨by rw [HE.out, HZ.out]; rfl, HB.out⟩
      | succ g =>
        rcases (show k = 0 ∨ k = 1 ∨ k = 2 ∨ k = 3 ∨ k = 4 ∨ k = 5 by omega) with rfl | rfl | rfl | rfl | rfl | rfl
        · have HC := Lib.hid (fun (o : Obj) => at_box (W := wr) (o := o) (fun X hX => row1_any A c0 fs A2 c2 (attsL fs) bX bT bM bB bI bS X (HRE.out.next hX) HHA.out))
          have q0 := HSX.out.cell 0
          have q1 := HSX.out.cell 1
          simp at q0 q1
          go_wp2_with fail
          refine (HC.out _).mono ?_
          rintro e w3 ⟨rfl, hb3⟩
          obtain ⟨v, hv⟩ : ∃ v, fs.any (a1B (attsL fs)) = v := ⟨_, rfl⟩
          have HV : Hid (rowB fs (attsL fs) 0 = v) := hv
          rw [hv]
          have hbx := (hb3.cell (p := ⟨wr.heap.size, 0, none⟩) (by simp)).trans (World.cell?_alloc_new _ _ _ _)
          simp at hbx
          have hbw := ((Below.refl wr.heap.size wr).alloc (Nat.le_refl _) _).trans (hb3.mono (by simp))
          have HSX3 := Lib.hid (HSX.out.next hbw)
          have HRE3 := Lib.hid (HRE.out.next hbw)
          have HB3 := Lib.hid (HB.out.trans (hbw.mono HB.out.size))
          clear HC q0 q1 hb3 hbw hv
          cases v with
          | true =>
            have HZ : Hid (rowsE fs (attsL fs) = 71) := rowsE_at (k := 0) (by omega) HN.out HV.out
            go_wp2
            go_ret
            exact ⟨by rw [HE.out, HZ.out]; rfl, HB3.out⟩
          | false =>
            go_wp2
            go_roundg g
            case measure => omega
            case rel =>
              refine ⟨0 + 1, by go_num, by omega, fun q hq => ?_, HSX3.out, HRE3.out, HB3.out⟩
              by_cases hqk : q < 0
              · exact HN.out q hqk
              · obtain rfl : q = 0 := by omega
                exact HV.out
        · have HC := Lib.hid (fun (o : Obj) => at_box (W := wr) (o := o) (fun X hX => row2_any A c0 fs A2 c2 (attsL fs) bX bT bM bB bI bS X (HRE.out.next hX) HHA.out))
          have q0 := HSX.out.cell 2
          have q1 := HSX.out.cell 3
          simp at q0 q1
          go_wp2_with fail
          refine (HC.out _).mono ?_
          rintro e w3 ⟨rfl, hb3⟩
          obtain ⟨v, hv⟩ : ∃ v, fs.any (a2B (attsL fs)) = v := ⟨_, rfl⟩
          have HV : Hid (rowB fs (attsL fs) 1 = v) := hv
          rw [hv]
          have hbx := (hb3.cell (p := ⟨wr.heap.size, 0, none⟩) (by simp)).trans (World.cell?_alloc_new _ _ _ _)
          simp at hbx
          have hbw := ((Below.refl wr.heap.size wr).alloc (Nat.le_refl _) _).trans (hb3.mono (by simp))
          have HSX3 := Lib.hid (HSX.out.next hbw)
          have HRE3 := Lib.hid (HRE.out.next hbw)
          have HB3 := Lib.hid (HB.out.trans (hbw.mono HB.out.size))
          clear HC q0 q1 hb3 hbw hv
          cases v with
          | true =>
            have HZ : Hid (rowsE fs (attsL fs) = 72) := rowsE_at (k := 1) (by omega) HN.out HV.out
            go_wp2
            go_ret
            exact ⟨by rw [HE.out, HZ.out]; rfl, HB3.out⟩
          | false =>
            go_wp2
            go_roundg g
            case measure => omega
            case rel =>
              refine ⟨1 + 1, by go_num, by omega, fun q hq => ?_, HSX3.out, HRE3.out, HB3.out⟩
              by_cases hqk : q < 1
              · exact HN.out q hqk
              · obtain rfl : q = 1 := by omega
                exact HV.out
        · have HC := Lib.hid (fun (o : Obj) => at_box (W := wr) (o := o) (fun X hX => row3_any A c0 fs A2 c2 (attsL fs) bX bT bM bB bI bS X (HRE.out.next hX) HHA.out))
          have q0 := HSX.out.cell 4
          have q1 := HSX.out.cell 5
          simp at q0 q1
          go_wp2_with fail
          refine (HC.out _).mono ?_
          rintro e w3 ⟨rfl, hb3⟩
          obtain ⟨v, hv⟩ : ∃ v, metB kE kA (strF (a3B (attsL fs)) 0 fs) = v := ⟨_, rfl⟩
          have HV : Hid (rowB fs (attsL fs) 2 = v) := hv
          rw [hv]
          have hbx := (hb3.cell (p := ⟨wr.heap.size, 0, none⟩) (by simp)).trans (World.cell?_alloc_new _ _ _ _)
          simp at hbx
          have hbw := ((Below.refl wr.heap.size wr).alloc (Nat.le_refl _) _).trans (hb3.mono (by simp))
          have HSX3 := Lib.hid (HSX.out.next hbw)
          have HRE3 := Lib.hid (HRE.out.next hbw)
          have HB3 := Lib.hid (HB.out.trans (hbw.mono HB.out.size))
          clear HC q0 q1 hb3 hbw hv
          cases v with
          | true =>
            have HZ : Hid (rowsE fs (attsL fs) = 73) := rowsE_at (k := 2) (by omega) HN.out HV.out
            go_wp2
            go_ret
            exact ⟨by rw [HE.out, HZ.out]; rfl, HB3.out⟩
          | false =>
            go_wp2
            go_roundg g
            case measure => omega
            case rel =>
              refine ⟨2 + 1, by go_num, by omega, fun q hq => ?_, HSX3.out, HRE3.out, HB3.out⟩
              by_cases hqk : q < 2
              · exact HN.out q hqk
              · obtain rfl : q = 2 := by omega
                exact HV.out
        · have HC := Lib.hid (fun (o : Obj) => at_box (W := wr) (o := o) (fun X hX => row4_any A c0 fs A2 c2 (attsL fs) bX bT bM bB bI bS X (HRE.out.next hX) HHA.out))
          have q0 := HSX.out.cell 6
          have q1 := HSX.out.cell 7
          simp at q0 q1
          go_wp2_with fail
          refine (HC.out _).mono ?_
          rintro e w3 ⟨rfl, hb3⟩
          obtain ⟨v, hv⟩ : ∃ v, metB kA kV (strF (a4B (attsL fs)) 0 fs) = v := ⟨_, rfl⟩
          have HV : Hid (rowB fs (attsL fs) 3 = v) := hv
          rw [hv]
          have hbx := (hb3.cell (p := ⟨wr.heap.size, 0, none⟩) (by simp)).trans (World.cell?_alloc_new _ _ _ _)
          simp at hbx
          have hbw := ((Below.refl wr.heap.size wr).alloc (Nat.le_refl _) _).trans (hb3.mono (by simp))
          have HSX3 := Lib.hid (HSX.out.next hbw)
          have HRE3 := Lib.hid (HRE.out.next hbw)
          have HB3 := Lib.hid (HB.out.trans (hbw.mono HB.out.size))
          clear HC q0 q1 hb3 hbw hv
          cases v with
          | true =>
            have HZ : Hid (rowsE fs (attsL fs) = 74) := rowsE_at (k := 3) (by omega) HN.out HV.out
            go_wp2
            go_ret
            exact ⟨by rw [HE.out, HZ.out]; rfl, HB3.out⟩
          | false =>
            go_wp2
            go_roundg g
            case measure => omega
            case rel =>
              refine ⟨3 + 1, by go_num, by omega, fun q hq => ?_, HSX3.out, HRE3.out, HB3.out⟩
              by_cases hqk : q < 3
              · exact HN.out q hqk
              · obtain rfl : q = 3 := by omega
                exact HV.out
        · have HC := Lib.hid (fun (o : Obj) => at_box (W := wr) (o := o) (fun X hX => row5_any A c0 fs A2 c2 (attsL fs) bX bT bM bB bI bS X (HRE.out.next hX) HHA.out))
          have q0 := HSX.out.cell 8
          have q1 := HSX.out.cell 9
          simp at q0 q1
          go_wp2_with fail
          refine (HC.out _).mono ?_
          rintro e w3 ⟨rfl, hb3⟩
          obtain ⟨v, hv⟩ : ∃ v, fs.any a5B = v := ⟨_, rfl⟩
          have HV : Hid (rowB fs (attsL fs) 4 = v) := hv
          rw [hv]
          have hbx := (hb3.cell (p := ⟨wr.heap.size, 0, none⟩) (by simp)).trans (World.cell?_alloc_new _ _ _ _)
          simp at hbx
          have hbw := ((Below.refl wr.heap.size wr).alloc (Nat.le_refl _) _).trans (hb3.mono (by simp))
          have HSX3 := Lib.hid (HSX.out.next hbw)
          have HRE3 := Lib.hid (HRE.out.next hbw)
          have HB3 := Lib.hid (HB.out.trans (hbw.mono HB.out.size))
          clear HC q0 q1 hb3 hbw hv
          cases v with
          | true =>
            have HZ : Hid (rowsE fs (attsL fs) = 75) := rowsE_at (k := 4) (by omega) HN.out HV.out
            go_wp2
            go_ret
            exact ⟨by rw [HE.out, HZ.out]; rfl, HB3.out⟩
          | false =>
            go_wp2
            go_roundg g
            case measure => omega
            case rel =>
              refine ⟨4 + 1, by go_num, by omega, fun q hq => ?_, HSX3.out, HRE3.out, HB3.out⟩
              by_cases hqk : q < 4
              · exact HN.out q hqk
              · obtain rfl : q = 4 := by omega
                exact HV.out
        · have HC := Lib.hid (fun (o : Obj) => at_box (W := wr) (o := o) (fun X hX => row6_any A c0 fs A2 c2 (attsL fs) bX bT bM bB bI bS X (HRE.out.next hX) (by have := HTL.out; omega)))
          have q0 := HSX.out.cell 10
          have q1 := HSX.out.cell 11
          simp at q0 q1
          go_wp2_with fail
          refine (HC.out _).mono ?_
          rintro e w3 ⟨rfl, hb3⟩
          obtain ⟨v, hv⟩ : ∃ v, (attsL fs).any a6B = v := ⟨_, rfl⟩
          have HV : Hid (rowB fs (attsL fs) 5 = v) := hv
          rw [hv]
          have hbx := (hb3.cell (p := ⟨wr.heap.size, 0, none⟩) (by simp)).trans (World.cell?_alloc_new _ _ _ _)
          simp at hbx
          have hbw := ((Below.refl wr.heap.size wr).alloc (Nat.le_refl _) _).trans (hb3.mono (by simp))
          have HSX3 := Lib.hid (HSX.out.next hbw)
          have HRE3 := Lib.hid (HRE.out.next hbw)
          have HB3 := Lib.hid (HB.out.trans (hbw.mono HB.out.size))
          clear HC q0 q1 hb3 hbw hv
          cases v with
          | true =>
            have HZ : Hid (rowsE fs (attsL fs) = 76) := rowsE_at (k := 5) (by omega) HN.out HV.out
            go_wp2
            go_ret
            exact ⟨by rw [HE.out, HZ.out]; rfl, HB3.out⟩
          | false =>
            go_wp2
            go_roundg g
            case measure => omega
            case rel =>
              refine ⟨5 + 1, by go_num, by omega, fun q hq => ?_, HSX3.out, HRE3.out, HB3.out⟩
              by_cases hqk : q < 5
              · exact HN.out q hqk
              · obtain rfl : q = 5 := by omega
                exact HV.out
theorem holds_any (A : Option Addr) (c0 : Nat) (fs : List FactP) (w : World) (hs : FVa w (.slice A fs.length c0) fs) (hl : fs.length ≤ 1000) (hS : sumS fs ≤ 1400) (hz : ∀ f ∈ fs, f.s.size ≤ maxLen ∧ f.l.length ≤ 9223372036854775807) (hk : ∀ f ∈ fs, ∀ s ∈ f.l, SpOk s) :
    Calls Tryz.prog 5 #[.slice A fs.length c0] w fun e w' => e = .returned (.int .i64 (holdsE fs)) ∧ Below w.heap.size w w' :=
  holds_big A c0 fs w hs hl (by omega) (fun f hf => by have := sumS_mem hf; omega) hz hk
end Go.Proofs.YtlmihlepaoifiaaGreat

/-
  PLAIN: what facts that hold have at an instant.
-/
namespace Go.Proofs.YtlmihlepaoifiaaGreat
open Go.RowKit Go.Shelf

theorem docFrom_up {all : List FactP} : ∀ (l : List FactP) (p : Option Int), l.Pairwise (fun x y => x.e ≤ y.e) → (∀ q, p = some q → ∀ f ∈ l, q ≤ f.e) → (docFrom all p l).Pairwise (fun a b => a.id < b.id) ∧ ∀ a ∈ docFrom all p l, (∀ q, p = some q → q < a.id) ∧ 10 ≤ a.id
  | [], _, _, _ => ⟨List.Pairwise.nil, fun a h => by cases h⟩
  | f :: l, p, hs, hp => by
    have hs' := List.pairwise_cons.1 hs
    obtain ⟨h1, h2⟩ := docFrom_up (all := all) l (some f.e) hs'.2 (fun q e g hg => by injection e with e; rw [← e]; exact hs'.1 g hg)
    have hd : docFrom all p (f :: l) = (if p = some f.e then [] else (docL f.e all).toList) ++ docFrom all (some f.e) l := rfl
    have hx : ∀ a ∈ (if p = some f.e then [] else (docL f.e all).toList), a.id = f.e ∧ 10 ≤ a.id ∧ p ≠ some f.e := fun a ha => by
      split at ha
      · cases ha
      · rename_i hne
        have ha := Option.mem_toList.1 ha
        unfold docL at ha
        split at ha
        · cases ha
        · rename_i hc
          cases ha
          refine ⟨rfl, ?_, hne⟩
          have : ¬ f.e < 10 := fun h => hc (.inl h)
          show 10 ≤ f.e
          omega
    rw [hd]
    refine ⟨List.pairwise_append.2 ⟨?_, h1, fun a ha b hb => ?_⟩, fun a ha => ?_⟩
    · split
      · exact List.Pairwise.nil
      · cases docL f.e all <;> simp
    · rw [(hx a ha).1]
      exact (h2 b hb).1 _ rfl
    · rcases List.mem_append.1 ha with ha | ha
      · refine ⟨fun q e => ?_, (hx a ha).2.1⟩
        have h3 := hp q e f (List.mem_cons_self ..)
        have h4 := (hx a ha).2.2
        rw [(hx a ha).1]
        have : q ≠ f.e := fun h => h4 (by rw [e, h])
        omega
      · refine ⟨fun q e => ?_, (h2 a ha).2⟩
        have h3 := hp q e f (List.mem_cons_self ..)
        have h4 := (h2 a ha).1 _ rfl
        omega
/-- no two attributes have one number -/
theorem atts_apart {fs : List FactP} (h : mayFs fs = true) : (attsL fs).Pairwise (fun a b => a.id ≠ b.id) := by
  obtain ⟨h1, h2⟩ := docFrom_up (all := fs) fs none (may_e h) (fun q e => by cases e)
  unfold attsL
  refine List.pairwise_append.2 ⟨by decide, h1.imp (fun h => by omega), fun a ha b hb => ?_⟩
  have hb2 := (h2 b hb).2
  have : a.id ≤ 7 := by
    revert a
    decide
  omega
theorem lookO_cases (x : Int) : ∀ (n : Nat) (T : List Att), T.length = n → (lookO T x = none ∧ ∀ a ∈ T, a.id ≠ x) ∨ ∃ a ∈ T, a.id = x ∧ lookO T x = some a := by
  intro n
  induction n with
  | zero =>
    intro T h
    obtain rfl := List.length_eq_zero_iff.1 h
    exact .inl ⟨rfl, fun a h => by cases h⟩
  | succ n ih =>
    intro T h
    have hne : T ≠ [] := fun e => by rw [e] at h; cases h
    obtain ⟨L, a, rfl⟩ : ∃ L a, T = L ++ [a] := ⟨T.dropLast, T.getLast hne, (List.dropLast_concat_getLast hne).symm⟩
    rw [lookO_snoc]
    by_cases e : a.id = x
    · rw [if_pos e]
      exact .inr ⟨a, by simp, e, rfl⟩
    · rw [if_neg e]
      rcases ih L (by simpa using h) with ⟨h1, h2⟩ | ⟨b, h1, h2, h3⟩
      · refine .inl ⟨h1, fun c hc => ?_⟩
        rcases List.mem_append.1 hc with hc | hc
        · exact h2 c hc
        · rw [List.mem_singleton.1 hc]; exact e
      · exact .inr ⟨b, List.mem_append.2 (.inl h1), h2, h3⟩
theorem look_find {T : List Att} (h : T.Pairwise (fun a b => a.id ≠ b.id)) (x : Int) : T.find? (idP x) = lookO T x := by
  have huni : ∀ a ∈ T, ∀ b ∈ T, a.id = b.id → a = b := fun a ha b hb e => by
    obtain ⟨i, hi, rfl⟩ := List.mem_iff_getElem.1 ha
    obtain ⟨j, hj, rfl⟩ := List.mem_iff_getElem.1 hb
    rcases Nat.lt_trichotomy i j with h1 | h1 | h1
    · exact absurd e (List.pairwise_iff_getElem.1 h i j hi hj h1)
    · subst h1; rfl
    · exact absurd e.symm (List.pairwise_iff_getElem.1 h j i hj hi h1)
  rcases lookO_cases x _ T rfl with ⟨h1, h2⟩ | ⟨a, h1, h2, h3⟩
  · rw [h1, List.find?_eq_none]
    intro a ha hc
    exact h2 a ha (of_decide_eq_true hc)
  · rw [h3]
    cases hf : T.find? (idP x) with
    | none =>
      rw [List.find?_eq_none] at hf
      exact absurd (decide_eq_true h2) (hf a h1)
    | some b =>
      have hb := List.find?_some hf
      rw [huni b (List.mem_of_find?_eq_some hf) a h1 ((of_decide_eq_true hb).trans h2.symm)]
/-- stretches of two facts that stand apart -/
theorem strF_two {p : FactP → Bool} {R : StrP → StrP → Prop} : ∀ (fs : List FactP) (j : Nat), (strF p j fs).Pairwise R → ∀ (k i : Nat) (f g : FactP), k < i → fs[k]? = some f → fs[i]? = some g → p f = true → p g = true → ∀ s ∈ f.l, ∀ t ∈ g.l, R ⟨j + k, f, s⟩ ⟨j + i, g, t⟩
  | [], _, _, k, i, f, g, _, h, _, _, _, _, _, _, _ => by simp at h
  | a :: r, j, hp, k, i, f, g, hki, hk, hi, hf, hg, s, hs, t, ht => by
    have hp' : ((if p a then strAt j a else []) ++ strF p (j + 1) r).Pairwise R := hp
    obtain ⟨h1, h2, h3⟩ := List.pairwise_append.1 hp'
    obtain ⟨i, rfl⟩ : ∃ q, i = q + 1 := ⟨i - 1, by omega⟩
    have hmem : ∀ (r : List FactP) (j i : Nat), r[i]? = some g → (⟨j + i, g, t⟩ : StrP) ∈ strF p j r := by
      intro r
      induction r with
      | nil => intro j i h; simp at h
      | cons b q ih =>
        intro j i h
        cases i with
        | zero =>
          simp at h
          subst h
          refine List.mem_append.2 (.inl ?_)
          rw [if_pos hg]
          exact List.mem_map.2 ⟨t, ht, rfl⟩
        | succ i =>
          have := ih (j + 1) i (by simpa using h)
          rw [show j + 1 + i = j + (i + 1) by omega] at this
          exact List.mem_append.2 (.inr this)
    cases k with
    | zero =>
      simp at hk
      subst hk
      have hm := hmem r (j + 1) i (by simpa using hi)
      rw [show j + 1 + i = j + (i + 1) by omega] at hm
      refine h3 _ ?_ _ hm
      rw [if_pos hf]
      exact List.mem_map.2 ⟨s, hs, rfl⟩
    | succ k =>
      have := strF_two r (j + 1) h2 k i f g (by omega) (by simpa using hk) (by simpa using hi) hf hg s hs t ht
      rwa [show j + 1 + k = j + (k + 1) by omega, show j + 1 + i = j + (i + 1) by omega] at this
open Classical in
theorem metB_no {k1 k2 : StrP → StrP → Int} {l : List StrP} (h : metB k1 k2 l = false) : l.Pairwise (Apart k1 k2) := by
  unfold metB at h
  exact Classical.not_not.1 (of_decide_eq_false h)
end Go.Proofs.YtlmihlepaoifiaaGreat

/-
  PLAIN: facts that hold, less of them, hold.
-/
namespace Go.Proofs.YtlmihlepaoifiaaGreat
open Go.RowKit Go.Shelf

/-- a fact with other spans -/
def withL (f : FactP) (l : List Sp) : FactP := ⟨f.e, f.a, f.k, f.m, f.s, l⟩
/-- facts that are left of some: those of built-in attributes whole, of the others some, cut down -/
inductive LessF : List FactP → List FactP → Prop
  | nil : LessF [] []
  | keep (f : FactP) {a b : List FactP} : f.a < 10 → LessF a b → LessF (f :: a) (f :: b)
  | cut (f : FactP) (l : List Sp) {a b : List FactP} : 10 ≤ f.a → SetL l → l ≠ [] → (∀ t, Inn l t → Inn f.l t) → LessF a b → LessF (f :: a) (withL f l :: b)
  | drop (f : FactP) {a b : List FactP} : 10 ≤ f.a → LessF a b → LessF (f :: a) b
theorem LessF.append {a b c d : List FactP} (h : LessF a b) (h2 : LessF c d) : LessF (a ++ c) (b ++ d) := by
  induction h with
  | nil => exact h2
  | keep f h0 _ ih => exact LessF.keep f h0 ih
  | cut f l h0 h1 h3 h4 _ ih => exact LessF.cut f l h0 h1 h3 h4 ih
  | drop f h0 _ ih => exact LessF.drop f h0 ih
theorem LessF.vals {a b : List FactP} (h : LessF a b) (e k : Int) (hk : k < 10) : valsL e k b = valsL e k a := by
  have no : ∀ f : FactP, 10 ≤ f.a → isEA e k f = false := fun f h => by
    unfold isEA
    rw [decide_eq_false (show ¬ f.a = k by omega), Bool.and_false]
  induction h with
  | nil => rfl
  | keep f h0 _ ih =>
    unfold valsL at ih ⊢
    cases hb : isEA e k f
    · rw [List.filter_cons_of_neg (by simp [hb]), List.filter_cons_of_neg (by simp [hb]), ih]
    · rw [List.filter_cons_of_pos hb, List.filter_cons_of_pos hb, List.map_cons, List.map_cons, ih]
  | cut f l h0 h1 h3 h4 _ ih =>
    unfold valsL at ih ⊢
    rw [List.filter_cons_of_neg (by rw [no (withL f l) h0]; simp), List.filter_cons_of_neg (by rw [no f h0]; simp), ih]
  | drop f h0 _ ih =>
    unfold valsL at ih ⊢
    rw [List.filter_cons_of_neg (by rw [no f h0]; simp), ih]
theorem LessF.doc {a b : List FactP} (h : LessF a b) (e : Int) : docL e b = docL e a := by
  unfold docL attL
  rw [h.vals e 1 (by omega), h.vals e 2 (by omega), h.vals e 3 (by omega), h.vals e 4 (by omega), h.vals e 5 (by omega), h.vals e 6 (by omega)]
theorem LessF.mem {a b : List FactP} (h : LessF a b) {g : FactP} (hg : g ∈ b) : ∃ f ∈ a, ∃ l, g = withL f l ∧ (∀ t, Inn l t → Inn f.l t) ∧ (f.a < 10 → l = f.l) ∧ (10 ≤ f.a → SetL l ∧ l ≠ []) := by
  induction h with
  | nil => cases hg
  | keep f h0 _ ih =>
    rcases List.mem_cons.1 hg with rfl | hg
    · exact ⟨g, List.mem_cons_self .., g.l, rfl, fun _ h => h, fun _ => rfl, fun h => by omega⟩
    · obtain ⟨f2, h1, h2⟩ := ih hg
      exact ⟨f2, List.mem_cons_of_mem _ h1, h2⟩
  | cut f l h0 h1 h3 h4 _ ih =>
    rcases List.mem_cons.1 hg with rfl | hg
    · exact ⟨f, List.mem_cons_self .., l, rfl, h4, fun h => by omega, fun _ => ⟨h1, h3⟩⟩
    · obtain ⟨f2, h1, h2⟩ := ih hg
      exact ⟨f2, List.mem_cons_of_mem _ h1, h2⟩
  | drop f h0 _ ih =>
    obtain ⟨f2, h1, h2⟩ := ih hg
    exact ⟨f2, List.mem_cons_of_mem _ h1, h2⟩
theorem LessF.kept {a b : List FactP} (h : LessF a b) {f : FactP} (hf : f ∈ a) (ha : f.a < 10) : f ∈ b := by
  induction h with
  | nil => cases hf
  | keep f2 h0 _ ih =>
    rcases List.mem_cons.1 hf with rfl | hf
    · exact List.mem_cons_self ..
    · exact List.mem_cons_of_mem _ (ih hf)
  | cut f2 l h0 h1 h3 h4 _ ih =>
    rcases List.mem_cons.1 hf with rfl | hf
    · omega
    · exact List.mem_cons_of_mem _ (ih hf)
  | drop f2 h0 _ ih =>
    rcases List.mem_cons.1 hf with rfl | hf
    · omega
    · exact ih hf
theorem LessF.tri {a b : List FactP} (h : LessF a b) : (b.map triF).Sublist (a.map triF) := by
  induction h with
  | nil => exact List.Sublist.refl _
  | keep f h0 _ ih => exact ih.cons_cons _
  | cut f l h0 h1 h3 h4 _ ih => exact ih.cons_cons (triF f)
  | drop f h0 _ ih => exact ih.cons _
theorem LessF.may {a b : List FactP} (h : LessF a b) (hm : mayFs a = true) : mayFs b = true := by
  obtain ⟨h1, h2⟩ := of_decide_eq_true hm
  refine decide_eq_true ⟨fun g hg => ?_, ?_⟩
  · obtain ⟨f, hf, l, rfl, _, hl, hc⟩ := h.mem hg
    have hmf := h1 f hf
    by_cases h0 : f.a < 10
    · rw [hl h0]; exact hmf
    · obtain ⟨c1, c2⟩ := hc (by omega)
      unfold mayF at hmf ⊢
      simp only [Bool.and_eq_true] at hmf ⊢
      exact ⟨⟨hmf.1.1, decide_eq_true (List.length_pos_iff.2 c2)⟩, decide_eq_true c1⟩
  · have h3 : (a.map triF).Pairwise (fun x y => ordTr x y < 0) := List.pairwise_map.2 h2
    exact List.pairwise_map.1 (h3.sublist h.tri)
/-- two facts of which no stretches meet, where what is asked of them is alike -/
def FarF (p : FactP → Bool) (q1 q2 : FactP → FactP → Int) (f g : FactP) : Prop := p f = true → p g = true → q1 f g = 0 → q2 f g = 0 → ∀ t, Inn f.l t → ¬ Inn g.l t
section
variable {p : FactP → Bool} {k1 k2 : StrP → StrP → Int} {q1 q2 : FactP → FactP → Int} (e1 : ∀ x y, k1 x y = q1 x.f y.f) (e2 : ∀ x y, k2 x y = q2 x.f y.f)
include e1 e2
end
theorem LessF.far {p : FactP → Bool} {q1 q2 : FactP → FactP → Int} {a b : List FactP} (h : LessF a b) (hp : ∀ f l, p (withL f l) = p f) (h1 : ∀ f g l m, q1 (withL f l) (withL g m) = q1 f g) (h2 : ∀ f g l m, q2 (withL f l) (withL g m) = q2 f g) (hf : a.Pairwise (FarF p q1 q2)) : b.Pairwise (FarF p q1 q2) := by
  have one : ∀ (f : FactP) (l : List Sp) (a b : List FactP), LessF a b → (∀ t, Inn l t → Inn f.l t) → (∀ g ∈ a, FarF p q1 q2 f g) → ∀ g ∈ b, FarF p q1 q2 (withL f l) g := fun f l a b h hl hf g hg pf pg z1 z2 t i1 i2 => by
    obtain ⟨g2, hg2, m, rfl, hm, _⟩ := h.mem hg
    rw [hp] at pf pg
    rw [h1] at z1
    rw [h2] at z2
    exact hf g2 hg2 pf pg z1 z2 t (hl t i1) (hm t i2)
  induction h with
  | nil => exact List.Pairwise.nil
  | keep f h0 hab ih =>
    obtain ⟨c1, c2⟩ := List.pairwise_cons.1 hf
    exact List.pairwise_cons.2 ⟨one f f.l _ _ hab (fun _ h => h) c1, ih c2⟩
  | cut f l h0 h3 h4 h5 hab ih =>
    obtain ⟨c1, c2⟩ := List.pairwise_cons.1 hf
    exact List.pairwise_cons.2 ⟨one f l _ _ hab h5 c1, ih c2⟩
  | drop f h0 _ ih => exact ih (List.pairwise_cons.1 hf).2
open Classical in
theorem metB_yes {k1 k2 : StrP → StrP → Int} {l : List StrP} (h : l.Pairwise (Apart k1 k2)) : metB k1 k2 l = false := by
  unfold metB
  exact decide_eq_false fun hn => hn h
end Go.Proofs.YtlmihlepaoifiaaGreat

/-
  PLAIN: the rows of the document's Holds (layer 7) are those of the program's.
-/
namespace Go.Proofs.YtlmihlepaoifiaaGreat

theorem metB_iff {k1 k2 : StrP → StrP → Int} {l : List StrP} : metB k1 k2 l = true ↔ ¬ l.Pairwise (Apart k1 k2) := by
  constructor
  · intro h hp
    rw [metB_yes hp] at h
    cases h
  · intro h
    cases hm : metB k1 k2 l with
    | true => rfl
    | false => exact absurd (metB_no hm) h
/-- stretches of facts stand apart, where those of each do, and those of each two -/
theorem strF_pair {p : FactP → Bool} {R : StrP → StrP → Prop} : ∀ (fs : List FactP) (j : Nat), (∀ (k : Nat) (f : FactP), fs[k]? = some f → p f = true → (strAt (j + k) f).Pairwise R) →
    (∀ (k i : Nat) (f g : FactP), k < i → fs[k]? = some f → fs[i]? = some g → p f = true → p g = true → ∀ s ∈ f.l, ∀ t ∈ g.l, R ⟨j + k, f, s⟩ ⟨j + i, g, t⟩) → (strF p j fs).Pairwise R
  | [], _, _, _ => List.Pairwise.nil
  | a :: r, j, h1, h2 => by
    have hmem : ∀ (r : List FactP) (j : Nat) (x : StrP), x ∈ strF p j r → ∃ (i : Nat) (g : FactP), r[i]? = some g ∧ p g = true ∧ ∃ t ∈ g.l, x = ⟨j + i, g, t⟩ := by
      intro r
      induction r with
      | nil => intro j x h; cases h
      | cons b q ih =>
        intro j x h
        rcases List.mem_append.1 h with h | h
        · split at h
          · rename_i hb
            obtain ⟨t, ht, rfl⟩ := List.mem_map.1 h
            exact ⟨0, b, rfl, hb, t, ht, rfl⟩
          · cases h
        · obtain ⟨i, g, hg, hp, t, ht, rfl⟩ := ih (j + 1) x h
          exact ⟨i + 1, g, by simpa using hg, hp, t, ht, by rw [show j + (i + 1) = j + 1 + i by omega]⟩
    refine List.pairwise_append.2 ⟨?_, ?_, ?_⟩
    · split
      · rename_i hb
        exact h1 0 a rfl hb
      · exact List.Pairwise.nil
    · refine strF_pair r (j + 1) (fun k f hk hf => ?_) (fun k i f g hki hk hi hf hg s hs t ht => ?_)
      · have := h1 (k + 1) f (by simpa using hk) hf
        rwa [show j + (k + 1) = j + 1 + k by omega] at this
      · have := h2 (k + 1) (i + 1) f g (by omega) (by simpa using hk) (by simpa using hi) hf hg s hs t ht
        rwa [show j + (k + 1) = j + 1 + k by omega, show j + (i + 1) = j + 1 + i by omega] at this
    · intro x hx y hy
      split at hx
      · rename_i hb
        obtain ⟨s, hs, rfl⟩ := List.mem_map.1 hx
        obtain ⟨i, g, hg, hp, t, ht, rfl⟩ := hmem r (j + 1) y hy
        have := h2 0 (i + 1) a g (by omega) rfl (by simpa using hg) hb hp s hs t ht
        rwa [show j + (i + 1) = j + 1 + i by omega] at this
      · cases hx
/-- two facts have an instant in common -/
def bothB (a b : List Sp) : Bool := !(ofL andF a b [] (endsL (a ++ b))).isEmpty
theorem andSp_spec (a b : List Sp) : SetL (ofL andF a b [] (endsL (a ++ b))) ∧ ∀ t, Inn (ofL andF a b [] (endsL (a ++ b))) t ↔ Inn a t ∧ Inn b t := by
  obtain ⟨h1, h2⟩ := of_set andF rfl a b
  refine ⟨h1, fun t => ?_⟩
  have h := h2 t
  unfold innB andF at h
  by_cases ga : Inn a t <;> by_cases gb : Inn b t <;> simp [ga, gb] at h ⊢ <;> exact h
theorem bothB_iff (a b : List Sp) : bothB a b = true ↔ ∃ t, Inn a t ∧ Inn b t := by
  obtain ⟨h1, h2⟩ := andSp_spec a b
  unfold bothB
  obtain ⟨q, hq⟩ : ∃ q, ofL andF a b [] (endsL (a ++ b)) = q := ⟨_, rfl⟩
  rw [hq] at h1 h2 ⊢
  constructor
  · intro h
    cases q with
    | nil => simp at h
    | cons s r => exact ⟨s.1, (h2 s.1).1 ⟨s, by simp, Int.le_refl _, h1.2 s (by simp)⟩⟩
  · rintro ⟨t, ht⟩
    obtain ⟨s, hs, _⟩ := (h2 t).2 ht
    cases q with
    | nil => cases hs
    | cons s r => rfl
theorem inn_both {a b : List Sp} (ha : ∀ s ∈ a, s.1 < s.2) (hb : ∀ s ∈ b, s.1 < s.2) : (∃ t, Inn a t ∧ Inn b t) ↔ ∃ s ∈ a, ∃ t ∈ b, s.1 < t.2 ∧ t.1 < s.2 := by
  constructor
  · rintro ⟨x, ⟨s, hs, h1, h2⟩, t, ht, h3, h4⟩
    exact ⟨s, hs, t, ht, by omega, by omega⟩
  · rintro ⟨s, hs, t, ht, h1, h2⟩
    have h3 := ha s hs
    have h4 := hb t ht
    by_cases h : s.1 ≤ t.1
    · exact ⟨t.1, ⟨s, hs, h, h2⟩, t, ht, Int.le_refl _, h4⟩
    · exact ⟨s.1, ⟨s, hs, Int.le_refl _, h3⟩, t, ht, by omega, h1⟩
/-- the document's question of two facts, the elder one first: rows 73, 74 -/
def two3 (T : List Att) (y x : FactP) : Bool := (y.e == x.e) && (y.a == x.a) && !(lookT T x.a).many && bothB y.l x.l
def two4 (T : List Att) (y x : FactP) : Bool := !(y.e == x.e) && (y.a == x.a) && decide ((y.k, (y.m, y.s)) = (x.k, (x.m, x.s))) && decide (0 < (lookT T x.a).un) && bothB y.l x.l
def pairB (q : FactP → FactP → Bool) (fs : List FactP) : Prop := ∃ (k i : Nat) (y x : FactP), k < i ∧ fs[k]? = some y ∧ fs[i]? = some x ∧ q y x = true
theorem may_pos {fs : List FactP} (hm : mayFs fs = true) {f : FactP} (hf : f ∈ fs) : SetL f.l := by
  have := (of_decide_eq_true hm).1 f hf
  unfold mayF at this
  simp only [Bool.and_eq_true, decide_eq_true_eq] at this
  exact of_decide_eq_true this.2
theorem str_self {k1 k2 : StrP → StrP → Int} {j : Nat} {f : FactP} (h : SetL f.l) : (strAt j f).Pairwise (Apart k1 k2) := by
  unfold strAt
  refine List.pairwise_map.2 (h.1.imp ?_)
  rintro s t hst ⟨_, _, _, h2⟩
  have : t.1 < s.2 := h2
  omega
theorem pair_not {fs : List FactP} {k i : Nat} {f g : FactP} (hm : mayFs fs = true) (hki : k < i) (hk : fs[k]? = some f) (hi : fs[i]? = some g) : triF f ≠ triF g := fun e => by
  have hr : RiseF fs := (of_decide_eq_true hm).2
  obtain ⟨hk1, rfl⟩ := List.getElem?_eq_some_iff.1 hk
  obtain ⟨hi1, rfl⟩ := List.getElem?_eq_some_iff.1 hi
  have h := List.pairwise_iff_getElem.1 hr k i hk1 hi1 hki
  have h0 := (ordTr_is.zero _ _).2 e
  omega
theorem met3 {T : List Att} {fs : List FactP} (hm : mayFs fs = true) : metB kE kA (strF (a3B T) 0 fs) = true ↔ pairB (two3 T) fs := by
  rw [metB_iff]
  constructor
  · intro h
    refine Classical.byContradiction fun hn => h (strF_pair fs 0 (fun k f hk _ => str_self (may_pos hm (List.mem_of_getElem? hk))) fun k i f g hki hk hi hf hg s hs t ht => ?_)
    rintro ⟨h1, h2, h3, h4⟩
    have e1 : f.e = g.e := kE_zero.1 h1
    have e2 : f.a = g.a := kA_zero.1 h2
    have p1 := (may_pos hm (List.mem_of_getElem? hk)).2
    have p2 := (may_pos hm (List.mem_of_getElem? hi)).2
    refine hn ⟨k, i, f, g, hki, hk, hi, ?_⟩
    have hb : bothB f.l g.l = true := (bothB_iff _ _).2 ((inn_both p1 p2).2 ⟨s, hs, t, ht, h3, h4⟩)
    have hg' : (!(lookT T g.a).many) = true := hg
    unfold two3
    rw [e1, e2, hb, hg']
    simp
  · rintro ⟨k, i, y, x, hki, hk, hi, hq⟩ hp
    unfold two3 at hq
    simp only [Bool.and_eq_true, beq_iff_eq] at hq
    obtain ⟨⟨⟨q1, q2⟩, q3⟩, q4⟩ := hq
    have p1 := (may_pos hm (List.mem_of_getElem? hk)).2
    have p2 := (may_pos hm (List.mem_of_getElem? hi)).2
    obtain ⟨s, hs, t, ht, h3, h4⟩ := (inn_both p1 p2).1 ((bothB_iff _ _).1 q4)
    exact strF_two fs 0 hp k i y x hki hk hi (by unfold a3B; rw [q2]; exact q3) q3 s hs t ht ⟨kE_zero.2 q1, kA_zero.2 q2, h3, h4⟩
theorem met4 {T : List Att} {fs : List FactP} (hm : mayFs fs = true) : metB kA kV (strF (a4B T) 0 fs) = true ↔ pairB (two4 T) fs := by
  rw [metB_iff]
  constructor
  · intro h
    refine Classical.byContradiction fun hn => h (strF_pair fs 0 (fun k f hk _ => str_self (may_pos hm (List.mem_of_getElem? hk))) fun k i f g hki hk hi hf hg s hs t ht => ?_)
    rintro ⟨h1, h2, h3, h4⟩
    have e1 : f.a = g.a := kA_zero.1 h1
    have e2 : (f.k, (f.m, f.s)) = (g.k, (g.m, g.s)) := kV_zero.1 h2
    have p1 := (may_pos hm (List.mem_of_getElem? hk)).2
    have p2 := (may_pos hm (List.mem_of_getElem? hi)).2
    have hne : f.e ≠ g.e := fun e => pair_not hm hki hk hi (by
      simp only [Prod.mk.injEq] at e2
      unfold triF
      rw [e, e1, e2.1, e2.2.1, e2.2.2])
    refine hn ⟨k, i, f, g, hki, hk, hi, ?_⟩
    have hb : bothB f.l g.l = true := (bothB_iff _ _).2 ((inn_both p1 p2).2 ⟨s, hs, t, ht, h3, h4⟩)
    have hg' : decide (0 < (lookT T g.a).un) = true := hg
    unfold two4
    rw [e1, e2, hb, hg', beq_eq_false_iff_ne.2 hne]
    simp
  · rintro ⟨k, i, y, x, hki, hk, hi, hq⟩ hp
    unfold two4 at hq
    simp only [Bool.and_eq_true, beq_iff_eq] at hq
    obtain ⟨⟨⟨⟨_, q2⟩, q3⟩, q4⟩, q5⟩ := hq
    have p1 := (may_pos hm (List.mem_of_getElem? hk)).2
    have p2 := (may_pos hm (List.mem_of_getElem? hi)).2
    obtain ⟨s, hs, t, ht, h3, h4⟩ := (inn_both p1 p2).1 ((bothB_iff _ _).1 q5)
    exact strF_two fs 0 hp k i y x hki hk hi (by unfold a4B; rw [q2]; exact q4) q4 s hs t ht ⟨kA_zero.2 q2, kV_zero.2 (of_decide_eq_true q3), h3, h4⟩
/-- whether a fact stands the whole time, as the document asks it -/
def whD (l : List Sp) : Bool := decide (l = [(minT, maxT)])
theorem subSp_spec (a b : List Sp) : SetL (ofL notF a b [] (endsL (a ++ b))) ∧ ∀ t, Inn (ofL notF a b [] (endsL (a ++ b))) t ↔ Inn a t ∧ ¬ Inn b t := by
  obtain ⟨h1, h2⟩ := of_set notF rfl a b
  refine ⟨h1, fun t => ?_⟩
  have h := h2 t
  unfold innB notF at h
  by_cases ga : Inn a t <;> by_cases gb : Inn b t <;> simp [ga, gb] at h ⊢ <;> exact h
theorem covB_all {l : List Sp} (hs : SetL l) (hk : ∀ s ∈ l, SpOk s) : whB l = whD l := by
  have h1 : SetL allS := by unfold SetL; exact ⟨List.pairwise_singleton _ _, fun s h => by rw [List.mem_singleton.1 h]; decide⟩
  have hin : ∀ t, Inn l t → Inn allS t := fun t ⟨s, h, h2, h3⟩ => ⟨(minT, maxT), List.mem_singleton.2 rfl, by have := (hk s h).1.1; show minT ≤ t; omega, by have := (hk s h).2.2; show t < maxT; omega⟩
  have hn := subSp_spec allS l
  have e : whB l = decide (ofL notF allS l [] (endsL (allS ++ l)) = []) := by
    unfold whB covB twoL setB
    rw [decide_eq_true hs, decide_eq_true h1]
    show (true && decide ((ofL notF allS l [] (endsL (allS ++ l))).length = 0)) = _
    rw [Bool.true_and]
    exact decide_eq_decide.2 List.length_eq_zero_iff
  rw [e]
  unfold whD
  refine decide_eq_decide.2 ⟨fun h => ?_, fun h => ?_⟩
  · rw [h] at hn
    refine set_ext hs h1 fun t => ⟨hin t, fun ht => Classical.byContradiction fun hc => ?_⟩
    obtain ⟨_, h, _⟩ := (hn.2 t).2 ⟨ht, hc⟩
    cases h
  · cases hq : ofL notF allS l [] (endsL (allS ++ l)) with
    | nil => rfl
    | cons s r =>
      rw [hq] at hn
      have h2 := (hn.2 s.1).1 ⟨s, by simp, Int.le_refl _, hn.1.2 s (by simp)⟩
      rw [h] at h2
      exact absurd h2.1 h2.2
theorem docFrom_mem {all : List FactP} {a : Att} : ∀ (l : List FactP) (p : Option Int), a ∈ docFrom all p l → ∃ g ∈ l, docL g.e all = some a
  | [], _, h => by cases h
  | g :: r, p, h => by
    rcases List.mem_append.1 h with h | h
    · split at h
      · cases h
      · exact ⟨g, by simp, by simpa using h⟩
    · obtain ⟨f, hf, e⟩ := docFrom_mem r _ h
      exact ⟨f, by simp [hf], e⟩
theorem docFrom_hasD {all : List FactP} {a : Att} {x : Int} (ha : docL x all = some a) : ∀ (l : List FactP) (p : Option Int), p ≠ some x → (∃ f ∈ l, f.e = x) → a ∈ docFrom all p l
  | [], _, _, h => by obtain ⟨_, h, _⟩ := h; cases h
  | g :: r, p, hp, h => by
    by_cases hg : g.e = x
    · refine List.mem_append.2 (.inl ?_)
      rw [hg, if_neg hp, ha]
      simp
    · refine List.mem_append.2 (.inr (docFrom_hasD ha r _ (fun e => hg (by injection e)) ?_))
      obtain ⟨f, hf, e⟩ := h
      rcases List.mem_cons.1 hf with rfl | hf
      · exact absurd e hg
      · exact ⟨f, hf, e⟩
theorem docL_id {e : Int} {fs : List FactP} {a : Att} (h : docL e fs = some a) : a.id = e := by
  unfold docL at h
  split at h
  · cases h
  · injection h with h
    rw [← h]; rfl
theorem isB_made {fs : List FactP} {f : FactP} (hf : f ∈ fs) (he : 10 ≤ f.e) : isB (attsL fs) f.e = (docL f.e fs).isSome := by
  unfold isB
  rcases lookO_cases f.e _ (attsL fs) rfl with ⟨h1, h2⟩ | ⟨a, h1, h2, h3⟩
  · rw [h1]
    cases hd : docL f.e fs with
    | none => rfl
    | some a =>
      refine absurd (docL_id hd) (h2 a ?_)
      exact List.mem_append.2 (.inr (docFrom_hasD hd fs none (fun e => by cases e) ⟨f, hf, rfl⟩))
  · rw [h3]
    rcases List.mem_append.1 h1 with h1 | h1
    · exfalso
      have : ∀ a ∈ builtL, a.id ≤ 7 := by decide
      have := this a h1
      omega
    · obtain ⟨g, _, hg⟩ := docFrom_mem fs none h1
      have e := docL_id hg
      rw [h2] at e
      rw [e, hg]
theorem isB_pos {fs : List FactP} {x : Int} (h : isB (attsL fs) x = true) : 1 ≤ x := by
  unfold isB at h
  rcases lookO_cases x _ (attsL fs) rfl with ⟨h1, _⟩ | ⟨a, h1, h2, _⟩
  · rw [h1] at h; cases h
  · rcases List.mem_append.1 h1 with h1 | h1
    · have : ∀ a ∈ builtL, 1 ≤ a.id := by decide
      have := this a h1
      omega
    · obtain ⟨g, _, hg⟩ := docFrom_mem fs none h1
      have e := docL_id hg
      have : 10 ≤ g.e := by
        refine Classical.byContradiction fun hn => ?_
        unfold docL at hg
        rw [if_pos (.inl (by omega))] at hg
        cases hg
      omega
/-- what the document's row 72 asks of a fact's value -/
def w72 (T : List Att) (f : FactP) : Bool := (!(f.k == (lookT T f.a).ty)) || !rgB f
theorem a2B_is {fs : List FactP} {f : FactP} (hf : f ∈ fs) (ha : 1 ≤ f.a) : a2B (attsL fs) f = (w72 (attsL fs) f || (decide (f.a ≤ 2) && decide (10 ≤ f.e) && !(docL f.e fs).isSome)) := by
  unfold a2B w72 mkB
  by_cases he : 10 ≤ f.e
  · rw [isB_made hf he, decide_eq_true he]
    by_cases h2 : f.a ≤ 2
    · have : decide (f.a = 1) = true ∨ decide (f.a = 2) = true := by
        rcases (by omega : f.a = 1 ∨ f.a = 2) with h | h
        · exact .inl (decide_eq_true h)
        · exact .inr (decide_eq_true h)
      rcases this with h | h <;> rw [h, decide_eq_true h2] <;> cases (!(f.k == (lookT (attsL fs) f.a).ty)) <;> cases rgB f <;> cases (docL f.e fs).isSome <;> simp
    · rw [decide_eq_false h2, decide_eq_false (show ¬ f.a = 1 by omega), decide_eq_false (show ¬ f.a = 2 by omega)]
      cases (!(f.k == (lookT (attsL fs) f.a).ty)) <;> cases rgB f <;> simp
  · rw [decide_eq_false he]
    cases (!(f.k == (lookT (attsL fs) f.a).ty)) <;> cases rgB f <;> simp
/-- what a row asks of one fact, with those ahead of it -/
def vioB (T : List Att) (fs : List FactP) (k i : Nat) (x : FactP) : Prop := (k = 0 ∧ a1B T x = true) ∨ (k = 1 ∧ a2B T x = true) ∨ (k = 2 ∧ ∃ j y, j < i ∧ fs[j]? = some y ∧ two3 T y x = true) ∨ (k = 3 ∧ ∃ j y, j < i ∧ fs[j]? = some y ∧ two4 T y x = true) ∨ (k = 4 ∧ a5B x = true)
theorem rowB_iff {T : List Att} {fs : List FactP} (hm : mayFs fs = true) {k : Nat} (hk : k < 6) : rowB fs T k = true ↔ (∃ i x, fs[i]? = some x ∧ vioB T fs k i x) ∨ (k = 5 ∧ T.any a6B = true) := by
  have any_iff : ∀ (p : FactP → Bool), fs.any p = true ↔ ∃ (i : Nat) (x : FactP), fs[i]? = some x ∧ p x = true := fun p => by
    rw [List.any_eq_true]
    constructor
    · rintro ⟨x, hx, h⟩
      obtain ⟨i, hi⟩ := List.mem_iff_getElem?.1 hx
      exact ⟨i, x, hi, h⟩
    · rintro ⟨i, x, hi, h⟩
      exact ⟨x, List.mem_of_getElem? hi, h⟩
  have pair_iff : ∀ (q : FactP → FactP → Bool), pairB q fs ↔ ∃ (i : Nat) (x : FactP), fs[i]? = some x ∧ ∃ j y, j < i ∧ fs[j]? = some y ∧ q y x = true := fun q => by
    constructor
    · rintro ⟨k, i, y, x, h1, h2, h3, h4⟩; exact ⟨i, x, h3, k, y, h1, h2, h4⟩
    · rintro ⟨i, x, h3, k, y, h1, h2, h4⟩; exact ⟨k, i, y, x, h1, h2, h3, h4⟩
  unfold vioB
  rcases (by omega : k = 0 ∨ k = 1 ∨ k = 2 ∨ k = 3 ∨ k = 4 ∨ k = 5) with rfl | rfl | rfl | rfl | rfl | rfl
  · show fs.any (a1B T) = true ↔ _
    rw [any_iff]; simp
  · show fs.any (a2B T) = true ↔ _
    rw [any_iff]; simp
  · show metB kE kA (strF (a3B T) 0 fs) = true ↔ _
    rw [met3 hm, pair_iff]; simp
  · show metB kA kV (strF (a4B T) 0 fs) = true ↔ _
    rw [met4 hm, pair_iff]; simp
  · show fs.any a5B = true ↔ _
    rw [any_iff]; simp
  · show T.any a6B = true ↔ _
    simp
end Go.Proofs.YtlmihlepaoifiaaGreat
