import Derived.Maps.OwnIn
import Derived.Test.YtlmihlepaoifiaaJHMap
import Derived.Test.YtlmihlepaoifiaaJAMakesL
import Derived.Laws.EntriesVeiled
import Derived.Test.YtlmihlepaoifiaaJHRows
/-
  CONTRACT: the program's Of.
-/
namespace Go.Proofs.Ytlmihlepaoifiaa
open Go.RowKit Go.Shelf Go.Maps
attribute [local go_sem] Oper.semAt_some

theorem results_cell_two {fn : Func} {p q : Tmp} {ty ty' : TypeId} (h : fn.results = #[.cell p ty, .cell q ty']) (tmps : Array Value) (P : Program) (w : World) :
    (results fn tmps).run P w = ((asAddr (tmps.getD p undef)).run P w).andThen fun a w₁ => ((loadVar ty a).run P w₁).andThen fun v w₂ => ((asAddr (tmps.getD q undef)).run P w₂).andThen fun a' w₃ => ((loadVar ty' a').run P w₃).andThen fun v' w₄ => .ok (.tuple #[v, v']) w₄ := by
  simp only [results, h]
  simp [Sem.run_bind]
theorem res_two {W : World} {fn : Func} (hfn : fn.results = #[.cell 2 35, .cell 3 22]) {b2 b3 : Nat} {v : Value} {ec : Int} (tmps : Array Value) (h2 : Boxed W b2 35 v) (h3 : Boxed W b3 22 (.int .i64 ec)) (t2 : tmps.getD 2 undef = .pointer (some ⟨b2, 0, none⟩)) (t3 : tmps.getD 3 undef = .pointer (some ⟨b3, 0, none⟩)) :
    (results fn tmps).run Try.prog W = .ok (.tuple #[v, .int .i64 ec]) W := by
  have a0 := h2.cell
  have a1 := h3.cell
  rw [results_cell_two hfn, t2, t3]
  go_simp
set_option maxRecDepth 100000 in
set_option maxHeartbeats 2000000 in
/-- Of, of facts that may not be. -/
theorem of_bad (m : Nat) (A : Option Addr) (c : Nat) (fs : List FactP) (w : World) (hs : FVa w (.slice A fs.length c) fs) (hl : fs.length ≤ 1954687338268) (hz : ∀ f ∈ fs, f.s.size ≤ maxLen ∧ f.l.length ≤ 9223372036854775807) (hmay : mayFs fs = false) :
    CallsIn Fence.wide m Try.prog 8 #[.slice A fs.length c] w (OfR w fs) := by
  obtain ⟨w1, hw1⟩ : ∃ w1, (w.alloc (.cells #[.slice none 0 0] 35)).alloc (.cells #[.int .i64 0] 22) = w1 := ⟨_, rfl⟩
  have HB1 : Hid (Below w.heap.size w w1) := by show Below _ _ _; rw [← hw1]; exact ((Below.refl _ _).alloc (Nat.le_refl _) _).alloc (by simp) _
  have h2 : Boxed w1 w.heap.size 35 (.slice none 0 0) := by rw [← hw1]; exact (Boxed.new _ _ _).alloc _
  have h3 : Boxed w1 (w.heap.size + 1) 22 (.int .i64 0) := by
    rw [← hw1]
    have := Boxed.new (w.alloc (.cells #[.slice none 0 0] 35)) 22 (.int .i64 0)
    rwa [World.size_alloc] at this
  have HC := Lib.hid (checkF_big A c fs w1 (hs.next HB1.out) (by omega) (fun f hf => ⟨(hz f hf).1, by have := (hz f hf).2; omega⟩))
  rw [hmay] at HC
  have HE : Hid (resL fs = [] ∧ attsE fs = 60) := by
    have h60 : attsE fs = 60 := by unfold attsE; rw [hmay]; rfl
    refine ⟨?_, h60⟩
    unfold resL
    rw [h60]
    rfl
  have H2 := Lib.hid h2
  have H3 := Lib.hid h3
  clear hs hl hz hmay h2 h3
  refine callsIn_of_wp_marks Try.func8 rfl trivial ?_ rfl
  simp only [Try.ntmps8, List.size_toArray, List.length_cons, List.length_nil, Nat.reduceAdd, Nat.reduceSub, Array.replicate_succ, Array.replicate_zero, List.push_toArray, List.append_toArray, List.nil_append, List.cons_append]
  gi_wp2_with fail
  clear hw1
  refine ⟨trivial, wide_deep _, ?_⟩
  refine (callsIn_wide.2 HC.out).mono ?_
  rintro e w2 ⟨rfl, hb2⟩
  have HB2 := Lib.hid (HB1.out.trans (hb2.mono HB1.out.size))
  have f2 : Boxed w2 w.heap.size 35 (.slice none 0 0) := (hb2.block _ H2.out.lt).trans H2.out
  have f3 : Boxed w2 (w.heap.size + 1) 22 (.int .i64 0) := (hb2.block _ H3.out.lt).trans H3.out
  have a0 := f2.cell
  have a1 := f3.cell
  have a2 := f2.frozen
  have a3 := f3.frozen
  have F2 := Lib.hid f2
  have F3 := Lib.hid f3
  clear hb2 f2 f3 HC
  gi_wp2_with fail
  have g2 : Boxed ((w2.setCell ⟨w.heap.size, 0, none⟩ (.slice none 0 0)).setCell ⟨w.heap.size + 1, 0, none⟩ (.int .i64 60)) w.heap.size 35 (.slice none 0 0) := (F2.out.set _).other (by omega) _
  have g3 : Boxed ((w2.setCell ⟨w.heap.size, 0, none⟩ (.slice none 0 0)).setCell ⟨w.heap.size + 1, 0, none⟩ (.int .i64 60)) (w.heap.size + 1) 22 (.int .i64 60) := (F3.out.other (by omega) _).set _
  exact ⟨_, res_two rfl _ g2 g3 rfl rfl, ⟨none, 0, by rw [HE.out.1, HE.out.2]; rfl, by rw [HE.out.1]; exact fun h => absurd rfl h⟩, (HB2.out.setCell (p := ⟨w.heap.size, 0, none⟩) (Nat.le_refl _) _).setCell (p := ⟨w.heap.size + 1, 0, none⟩) (Nat.le_succ _) _⟩

set_option maxRecDepth 100000 in
theorem attrs_any (A : Option Addr) (n c : Nat) (w : World) : Calls Try.prog 15 #[.slice A n c] w fun e w' =>
    e = .returned (.func (.func 44) #[] #[.pointer (some ⟨w.heap.size, 0, none⟩)]) ∧ w' = w.alloc (.cells #[.slice A n c] 24) := by
  go_enter Try.func15, Try.ntmps15
  go_wp2
  go_ret
  exact ⟨rfl, rfl⟩
theorem zeroI6 (w : World) : (zeroValue 2).run Try.prog w = .ok (.int .i64 0) w := by kernel_rfl

set_option maxRecDepth 100000 in
set_option maxHeartbeats 4000000 in
/-- Of, of facts that may be. -/
theorem of_good (m : Nat) (hm3 : Hid (9 ≤ m)) (A : Option Addr) (c : Nat) (fs : List FactP) (w : World) (hs : FVa w (.slice A fs.length c) fs) (hl : fs.length ≤ 1954687338268) (hz : ∀ f ∈ fs, f.s.size ≤ maxLen ∧ f.l.length ≤ 9223372036854775807) (hmay : mayFs fs = true) :
    CallsIn Fence.wide m Try.prog 8 #[.slice A fs.length c] w (OfR w fs) := by
  obtain ⟨i0, hi, hz0, hz1, hz2⟩ := info_parts infoA
  have hmm := @run_makeMap Try.prog
  have hmx : 3000000000000 ≤ maxLen := by decide
  obtain ⟨rs, hr⟩ := runsE_any fs.length fs (Nat.le_refl _)
  obtain ⟨T, hT⟩ : ∃ T, attsL fs = T := ⟨_, rfl⟩
  have HTR : Hid (T = builtL ++ rs.filterMap madeR) := by show _ = _; rw [← hT]; exact atts_runs hmay hr
  have HTL : Hid (T.length ≤ 1954687338275) := by show _ ≤ _; rw [← hT]; have := atts_len fs; omega
  have HTN : Hid (∀ a ∈ T, a.nm.size ≤ maxLen) := by show ∀ _, _; rw [← hT]; exact atts_nm fun f hf => (hz f hf).1
  have HRS := Lib.hid hr
  have HE0 : Hid (oneName T → resL fs = T ∧ attsE fs = 0) := fun h => by
    have h60 : attsE fs = 0 := by unfold attsE; rw [hmay, if_pos rfl, hT, if_pos h]
    refine ⟨?_, h60⟩
    unfold resL
    rw [if_pos h60, hT]
  have HE7 : Hid (¬ oneName T → resL fs = [] ∧ attsE fs = 70) := fun h => by
    have h60 : attsE fs = 70 := by unfold attsE; rw [hmay, if_pos rfl, hT, if_neg h]
    refine ⟨?_, h60⟩
    unfold resL
    rw [h60]
    rfl
  have HTS := Lib.hid hT
  obtain ⟨w1, hw1⟩ : ∃ w1, (w.alloc (.cells #[.slice none 0 0] 35)).alloc (.cells #[.int .i64 0] 22) = w1 := ⟨_, rfl⟩
  have HB1 : Hid (Below w.heap.size w w1) := by show Below _ _ _; rw [← hw1]; exact ((Below.refl _ _).alloc (Nat.le_refl _) _).alloc (by simp) _
  have h2 : Boxed w1 w.heap.size 35 (.slice none 0 0) := by rw [← hw1]; exact (Boxed.new _ _ _).alloc _
  have h3 : Boxed w1 (w.heap.size + 1) 22 (.int .i64 0) := by
    rw [← hw1]
    have := Boxed.new (w.alloc (.cells #[.slice none 0 0] 35)) 22 (.int .i64 0)
    rwa [World.size_alloc] at this
  have HC := Lib.hid (checkF_big A c fs w1 (hs.next HB1.out) (by omega) (fun f hf => ⟨(hz f hf).1, by have := (hz f hf).2; omega⟩))
  rw [hmay, if_pos rfl] at HC
  have H2 := Lib.hid h2
  have H3 := Lib.hid h3
  have HS := Lib.hid hs
  clear hs hz hmay h2 h3 hr hT
  refine callsIn_of_wp_marks Try.func8 rfl trivial ?_ rfl
  simp only [Try.ntmps8, List.size_toArray, List.length_cons, List.length_nil, Nat.reduceAdd, Nat.reduceSub, Array.replicate_succ, Array.replicate_zero, List.push_toArray, List.append_toArray, List.nil_append, List.cons_append]
  gi_wp2_with fail
  clear hw1
  refine ⟨trivial, wide_deep _, ?_⟩
  refine (callsIn_wide.2 HC.out).mono ?_
  rintro e w2 ⟨rfl, hb2⟩
  have HB2 := Lib.hid (HB1.out.trans (hb2.mono HB1.out.size))
  have F2 : Hid (Boxed w2 w.heap.size 35 (.slice none 0 0)) := (hb2.block _ H2.out.lt).trans H2.out
  have F3 : Hid (Boxed w2 (w.heap.size + 1) 22 (.int .i64 0)) := (hb2.block _ H3.out.lt).trans H3.out
  clear hb2 HC H2 H3
  gi_wp2_with fail
  refine ⟨trivial, wide_deep _, ?_⟩
  obtain ⟨w3, hw3⟩ : ∃ w3, ((w2.alloc (.cells #[.slice none 0 0] 35)).alloc (.map #[] 0)).alloc (.cells #[.map (some (w2.heap.size + 1))] 49) = w3 := ⟨_, rfl⟩
  have hz3 : w3.heap.size = w2.heap.size + 3 := by rw [← hw3]; simp
  have HB3 : Hid (Below w2.heap.size w2 w3) := by show Below _ _ _; rw [← hw3]; exact (((Below.refl _ _).alloc (Nat.le_refl _) _).alloc (by simp) _).alloc (by simp; omega) _
  have HA3 : Hid (Boxed w3 w2.heap.size 35 (.slice none 0 0)) := by show Boxed _ _ _ _; rw [← hw3]; exact ((Boxed.new _ _ _).alloc _).alloc _
  have HN3 : Hid (Boxed w3 (w2.heap.size + 1 + 1) 49 (.map (some (w2.heap.size + 1)))) := by
    show Boxed _ _ _ _
    rw [← hw3]
    have := Boxed.new ((w2.alloc (.cells #[.slice none 0 0] 35)).alloc (.map #[] 0)) 49 (.map (some (w2.heap.size + 1)))
    rwa [World.size_alloc, World.size_alloc] at this
  have HM3 : Hid (w3.ownsMap (H := Unit) Try.prog 9 anyE (w2.heap.size + 1) 0 (setN [])) := by
    show World.ownsMap _ _ _ _ _ _ _
    rw [← hw3]
    have := World.ownsMap_made (H := Unit) (w2.alloc (.cells #[.slice none 0 0] 35)) Try.prog 9 anyE
    rw [World.size_alloc] at this
    exact this.alloc _
  rw [hw3]
  have HZ3 := Lib.hid hz3
  clear hw3
  refine (callsIn_wide.2 (attrs_any _ _ _ _)).mono ?_
  rintro e w4 ⟨rfl, hw4⟩
  have hz4 : w4.heap.size = w3.heap.size + 1 := by rw [hw4]; simp
  have HB4 : Hid (Below w3.heap.size w3 w4) := by show Below _ _ _; rw [hw4]; exact (Below.refl _ _).alloc (Nat.le_refl _) _
  have hbl : Boxed w4 w3.heap.size 24 (.slice A fs.length c) := by rw [hw4]; exact Boxed.new _ _ _
  clear hw4
  have hB := HB2.out.size
  have HBW : Hid (Below w.heap.size w w4) := (HB2.out.trans (HB3.out.mono hB)).trans (HB4.out.mono (by omega))
  have hbA4 : Boxed w4 w2.heap.size 35 (.slice none 0 0) := (HB4.out.block _ (by omega)).trans HA3.out
  have HMID : Hid (NMid w w4.heap.size w.heap.size (w.heap.size + 1) w2.heap.size (w2.heap.size + 1 + 1) (w2.heap.size + 1) T [] w4) := by
    refine ⟨Nat.le_refl _, HBW.out, ⟨_, hbA4, World.ownsRow_nil _ _ _ _⟩, ?_, ?_, ?_, ?_, ?_⟩
    · exact (HB4.out.block _ (by have := F2.out.lt; omega)).trans ((HB3.out.block _ F2.out.lt).trans F2.out)
    · exact (HB4.out.block _ (by have := F3.out.lt; omega)).trans ((HB3.out.block _ F3.out.lt).trans F3.out)
    · exact (HB4.out.block _ (by omega)).trans HN3.out
    · exact ownsMap_below HM3.out HB4.out (by omega)
    · unfold oneName; exact List.Pairwise.nil
  have HF2 := Lib.hid F2.out.lt
  have HF3 := Lib.hid F3.out.lt
  have HZ4 := Lib.hid hz4
  clear hz3 hz4
  gi_wp2_with fail
  have hz3 := HZ3.out
  have hz4 := HZ4.out
  have hro : Fence.wide.round = none := rfl
  have hf2 := HF2.out
  have hf3 := HF3.out
  refine wpIn_rangeFunc_ownH hro (by have := hm3.out; omega) (gf := 44) (lb := #[.pointer (some ⟨w3.heap.size, 0, none⟩)]) rfl trivial (enters_of Try.func44 (by kernel_rfl) rfl)
    (iter_stops (m - 1) w2.heap.size w3.heap.size A c fs T w w4 rs HBW.out HS.out (by omega) HRS.out HTR.out hbl hbA4 (by omega))
    (fun h k => h.trans k) (fun W lp o o' hl h hc _ => kpA_put (M := w4.heap.size) (by have := HBW.out.size; omega) (by omega) W lp o' hl h hc) (Below.refl _ _) (fun _ => rfl)
    (NMid w w4.heap.size w.heap.size (w.heap.size + 1) w2.heap.size (w2.heap.size + 1 + 1) (w2.heap.size + 1) T) (NStop w w.heap.size (w.heap.size + 1) T) (nMid_own T (by have := HBW.out.size; omega) (by omega) (by omega) (by omega) (by omega) (by omega)) (fun cd => nStop_own T (by have := HBW.out.size; omega) (by omega) (by omega) cd)
    HMID.out
    (fun x a' W => ∃ g, w4.heap.size ≤ g ∧ BxA W g T[x.val] ∧ a' = { tmps := #[.slice A fs.length c, undef, .pointer (some ⟨w.heap.size, 0, none⟩), .pointer (some ⟨w.heap.size + 1, 0, none⟩), .int .i64 0, .pointer (some ⟨w2.heap.size, 0, none⟩), .pointer (some ⟨w2.heap.size + 1 + 1, 0, none⟩), .pointer (some ⟨g, 0, none⟩), undef, undef, .slice A fs.length c, .int .i64 0, .int .i64 0, .bool false, undef, .map (some (w2.heap.size + 1)), .slice A fs.length c, .func (.func 44) #[] #[.pointer (some ⟨w3.heap.size, 0, none⟩)], attV T[x.val], undef, undef, undef, undef, undef, undef, undef, undef, undef, undef, undef, undef, undef, undef, undef, undef, undef, undef], defers := [] })
    (fun x a' _ X Y row ⟨g, hg1, hg2, e⟩ hgr hr => ⟨g, hg1, (hgr.block g (Array.getElem?_eq_some_iff.1 hg2).1 (fun e => by obtain ⟨o, ho, hn⟩ := (hr g e.symm).2; unfold BxA at hg2; rw [hg2] at ho; cases ho; cases hn)).trans hg2, e⟩) ?assign ?body ?done ?stop
  case assign =>
    clear hz3 hz4
    rintro lp pre x W K hM hK
    have HK9 := Lib.hid @hK
    have HM := Lib.hid hM
    clear hK hM
    obtain ⟨d, hd⟩ : ∃ d, T[x.val] = d := ⟨_, rfl⟩
    unfold attV
    simp only [hd]
    have hsz := HM.out.sz
    gi_wp2
    have hw4 := HBW.out.size
    have hz3 := HZ3.out
    have hz4 := HZ4.out
    refine HK9.out _ _ (keepsFrom_below ((Below.refl _ W).alloc (Nat.le_refl _) _)) (kpA_below ((Below.refl _ W).alloc (Nat.le_refl _) _) (by omega) (by omega)) ((nMid_own T (by omega) (by omega) (by omega) (by omega) (by omega) (by omega)).alloc _ HM.out) ⟨W.heap.size, hsz, by rw [hd]; exact bxA_new W d, by rw [hd]; rfl⟩
  case body =>
    clear hz3 hz4
    rintro lp pre x a' W hwl hrec hM ⟨g, hgz, hg, rfl⟩ hlt
    obtain ⟨d, hd⟩ : ∃ d, T[x.val] = d := ⟨_, rfl⟩
    have HD := Lib.hid hd
    have HDN : Hid (d.nm.size ≤ maxLen) := by show _ ≤ _; rw [← hd]; exact HTN.out _ (List.getElem_mem _)
    rw [hd] at hg
    simp only [hd]
    obtain ⟨v, hv, ho⟩ := hM.row
    obtain ⟨L, hL⟩ : ∃ L, preL T pre = L := ⟨_, rfl⟩
    rw [hL] at ho
    have HLL := Lib.hid hL
    have HPL : Hid (L.length = pre.length) := by show _ = _; rw [← hL]; exact preL_len T pre
    have hmp := hM.map
    rw [hL] at hmp
    have HMP := Lib.hid hmp
    have hhas := has_setN (H := Unit) L d
    obtain ⟨tk, htk⟩ : ∃ tk, L.any (fun a => decide (a.nm = d.nm)) = tk := ⟨_, rfl⟩
    rw [htk] at hhas
    have HH : Hid (Maps.has (setN (H := Unit) L) (.string d.nm.data.toList) = tk) := hhas
    have HTK := Lib.hid htk
    have HM := Lib.hid hM
    have HV := Lib.hid hv
    have HO := Lib.hid ho
    have HG := Lib.hid hg
    have HLT := Lib.hid hlt
    have x0 := hg.cell 0
    have x1 := hg.cell 1
    have x2 := hg.cell 2
    have x3 := hg.cell 3
    have x4 := hg.cell 4
    have x5 := hg.cell 5
    have x6 := hg.cell 6
    simp at x0 x1 x2 x3 x4 x5 x6
    have n0 := hM.nb.cell
    clear hd hL hmp hhas htk hM hv ho hg hrec
    cases tk with
    | true =>
      have r0 := HM.out.r2.cell
      have r1 := HM.out.r3.cell
      have r2 := HM.out.r2.frozen
      have r3 := HM.out.r3.frozen
      gi_wp2_with (gi_at_lookup; refine wpListIn_lookup_own_ok _ rfl _ _ 49 rfl 9 2 lawNm Try.underlying49 anyE (zeroI6 _) (.agg []) [] rfl (w2.heap.size + 1) pre.length (setN L) rfl HMP.out _ _ rfl (keyOf_nm HDN.out) ?_; rw [HH.out]; intro v9 ps9 _)
      exact ⟨(keepsFrom_set (p := ⟨w.heap.size, 0, none⟩) HM.out.r2 _).trans (keepsFrom_set (p := ⟨w.heap.size + 1, 0, none⟩) (HM.out.r3.other (by omega) _) _), ⟨(HM.out.low.setCell (p := ⟨w.heap.size, 0, none⟩) (Nat.le_refl _) _).setCell (p := ⟨w.heap.size + 1, 0, none⟩) (Nat.le_succ _) _, (HM.out.r2.set _).other (by omega) _, (HM.out.r3.other (by omega) _).set _, rfl, ⟨pre, x, rfl, by rw [HLL.out, HD.out]; exact HTK.out⟩⟩⟩
    | false =>
      have HGL : Hid (g < W.heap.size) := (Array.getElem?_eq_some_iff.1 HG.out).1
      have HAL := Lib.hid HV.out.lt
      gi_wp2_with (first
        | (gi_at_lookup; refine wpListIn_lookup_own_ok _ rfl _ _ 49 rfl 9 2 lawNm Try.underlying49 anyE (zeroI6 _) (.agg []) [] rfl (w2.heap.size + 1) pre.length (setN L) rfl HMP.out _ _ rfl (keyOf_nm HDN.out) ?_; rw [HH.out]; intro v9 ps9 _)
        | (gi_at_mapUpdate; refine wpListIn_mapUpdate_own _ rfl _ _ _ 49 rfl 9 2 lawNm Try.underlying49 anyE (w2.heap.size + 1) pre.length (setN L) rfl HMP.out (by have := HLT.out; have := HTL.out; omega) _ _ _ rfl rfl (keyOf_nm HDN.out) (.agg []) [] (anyE_mk _) ?_; intro w5 hown5 hgrow5; have HW5 := Lib.hid hown5; have HR5 := Lib.hid hgrow5; have HK5 : Hid (KpA w.heap.size w2.heap.size W w5) := kpA_map hgrow5 HMP.out (by have := HB2.out.size; omega) (by omega) HAL.out; have HG5 : Hid (BxA w5 g d) := (hgrow5.block g HGL.out (fun e => by injection e with e; have := HZ3.out; have := HZ4.out; omega)).trans HG.out; have HV5 : Hid (Boxed w5 w2.heap.size 35 v) := HV.out.kept hgrow5 (fun e => by injection e with e; omega); have HO5 : Hid (OwnA w5 w.heap.size v L) := HO.out.kept hgrow5 (fun r e => by cases e; obtain ⟨es, clock, hb, _⟩ := HMP.out; exact ⟨_, hb, rfl⟩); clear hown5 hgrow5 x0 x1 x2 x3 x4 x5 x6 n0; have x0 := HG5.out.cell 0; have x1 := HG5.out.cell 1; have x2 := HG5.out.cell 2; have x3 := HG5.out.cell 3; have x4 := HG5.out.cell 4; have x5 := HG5.out.cell 5; have x6 := HG5.out.cell 6; simp at x0 x1 x2 x3 x4 x5 x6; have v0 := HV5.out.cell)
        | (gi_at_builtin; go_loud (refine wpListIn_append_own_at _ rfl _ _ 35 rfl w.heap.size 39 i0 (.agg #[.int .i64 0, .string ⟨#[]⟩, .int .i64 0, .bool false, .int .i64 0, .bool false, .bool false]) 7 56 Try.underlying35 hi hz0 hz1 hz2 rfl (by decide) v L.length (L.flatMap cellsA) rfl (World.ownsRow.alloc HO5.out _) ⟨w5.heap.size, 0, none⟩ 1 1 (cellsA d) rfl rfl (litA w5 d) (cellsA_one _) (by have := HPL.out; have := HLT.out; have := HTL.out; omega) (by have := HPL.out; have := HLT.out; have := HTL.out; omega) (by have := HB2.out.size; have := HV5.out.lt; simp; omega) ?_); intro v6 w6 hown6 hgrow6 _ hat6; obtain ⟨g', cap', rfl⟩ := ownsRow_succ hown6; have hst := att_step HV5.out HO5.out (by have := HB2.out.size; have := HV5.out.lt; omega) HB2.out.size hgrow6 hat6 hown6; have HST := Lib.hid hst; have HR6 := Lib.hid hgrow6; clear hown6 hat6 hgrow6; have y0 := hst.1.cell; have y1 := hst.1.frozen; clear hst))
      obtain ⟨_, hb6, hko, hkp, hrw⟩ := HST.out
      have hkw := HK5.out.trans hkp
      have hm6 : some (w2.heap.size + 1) ≠ v.ownBlock := map_not_row HMP.out HO.out
      have hpx : preL T (pre ++ [x]) = L ++ [d] := by rw [preL_snoc, HLL.out, HD.out]
      refine ⟨(KeepsFrom.of_grownBy HR5.out (fun j e => by injection e with e; have := HZ3.out; have := HZ4.out; omega)).trans (hko.from _), hkw, ?_⟩
      refine ⟨Nat.le_trans HM.out.sz hkw.size, HM.out.low.trans hkw.low, ⟨_, hb6, ?_⟩, ?_, ?_, ?_, ?_, ?_⟩
      · rw [hpx]
        show World.ownsRow _ _ _ _ _ _ _
        rw [List.length_append, List.flatMap_append]
        simpa using hrw
      · exact hkw.cells _ _ _ _ HM.out.r2 (by omega) (not_rowAt HV.out HO.out HM.out.r2 (by decide))
      · exact hkw.cells _ _ _ _ HM.out.r3 (by omega) (not_rowAt HV.out HO.out HM.out.r3 (by decide))
      · exact hkw.cells _ _ _ _ HM.out.nb (by omega) (not_rowAt HV.out HO.out HM.out.nb (by decide))
      · rw [hpx, setN_snoc, List.length_append]
        exact ((HW5.out.alloc _).kept HR6.out hm6).setCell (a := ⟨w2.heap.size, 0, none⟩) (by show _ ≠ w2.heap.size; omega) _
      · rw [hpx]
        exact oneName_snoc (by rw [← HLL.out]; exact HM.out.one) HTK.out
  case done =>
    rintro D ys W hD rfl hM hK
    obtain ⟨v, hv, ho⟩ := hM.row
    rw [preL_all] at ho
    have hon := hM.one
    rw [preL_all] at hon
    have HM := Lib.hid hM
    have HO := Lib.hid ho
    have HON := Lib.hid hon
    have HKK := Lib.hid hK
    have a0 := hv.cell
    have r0 := hM.r2.cell
    have r1 := hM.r3.cell
    have r2 := hM.r2.frozen
    have r3 := hM.r3.frozen
    have HV := Lib.hid hv
    clear hM hv hon hK hz3 hz4
    obtain ⟨A1, c1, rfl, _⟩ := ho.form
    clear ho
    gi_wp2
    have hs2 : Boxed (W.setCell ⟨w.heap.size, 0, none⟩ (.slice A1 T.length c1)) (w.heap.size + 1) 22 (.int .i64 0) := HM.out.r3.other (by omega) _
    have ho1 : OwnA (W.setCell ⟨w.heap.size, 0, none⟩ (.slice A1 T.length c1)) w.heap.size (.slice A1 T.length c1) T := World.ownsRow.kept HO.out (grownBy_setCell' W w.heap.size _) (.inr (HM.out.r2.not_row (by decide) HO.out).symm)
    have ho2 : OwnA ((W.setCell ⟨w.heap.size, 0, none⟩ (.slice A1 T.length c1)).setCell ⟨w.heap.size + 1, 0, none⟩ (.int .i64 0)) w.heap.size (.slice A1 T.length c1) T := World.ownsRow.kept ho1 (grownBy_setCell' _ _ _) (.inr (hs2.not_row (by decide) ho1).symm)
    have g2 : Boxed ((W.setCell ⟨w.heap.size, 0, none⟩ (.slice A1 T.length c1)).setCell ⟨w.heap.size + 1, 0, none⟩ (.int .i64 0)) w.heap.size 35 (.slice A1 T.length c1) := (HM.out.r2.set _).other (by omega) _
    have g3 : Boxed ((W.setCell ⟨w.heap.size, 0, none⟩ (.slice A1 T.length c1)).setCell ⟨w.heap.size + 1, 0, none⟩ (.int .i64 0)) (w.heap.size + 1) 22 (.int .i64 0) := hs2.set _
    have hlow : Below w.heap.size w ((W.setCell ⟨w.heap.size, 0, none⟩ (.slice A1 T.length c1)).setCell ⟨w.heap.size + 1, 0, none⟩ (.int .i64 0)) := (HM.out.low.setCell (p := ⟨w.heap.size, 0, none⟩) (Nat.le_refl _) _).setCell (p := ⟨w.heap.size + 1, 0, none⟩) (Nat.le_succ _) _
    have hKn : ((W.setCell ⟨w.heap.size, 0, none⟩ (.slice A1 T.length c1)).setCell ⟨w.heap.size + 1, 0, none⟩ (.int .i64 0)).heap[D]? = some (.deferred (some [])) := (Below.heap_setCell _ _ _ D (by show D ≠ w.heap.size + 1; have := HZ3.out; have := HZ4.out; omega)).trans ((Below.heap_setCell _ _ _ D (by show D ≠ w.heap.size; have := HZ3.out; have := HZ4.out; omega)).trans HKK.out)
    obtain ⟨Wf, hWf⟩ : ∃ Wf, (W.setCell ⟨w.heap.size, 0, none⟩ (.slice A1 T.length c1)).setCell ⟨w.heap.size + 1, 0, none⟩ (.int .i64 0) = Wf := ⟨_, rfl⟩
    rw [hWf] at ho2 g2 g3 hlow hKn ⊢
    have hbD : w4.heap.size ≤ D := hD
    have q2 : Boxed (Wf.putObj D (.deferred none)) w.heap.size 35 (.slice A1 T.length c1) := g2.kept (grownBy_putObj' Wf D _) (by have := HZ3.out; have := HZ4.out; simp; omega)
    have q3 : Boxed (Wf.putObj D (.deferred none)) (w.heap.size + 1) 22 (.int .i64 0) := g3.kept (grownBy_putObj' Wf D _) (by have := HZ3.out; have := HZ4.out; simp; omega)
    have hoF := ho2.kept (grownBy_putObj' Wf D (.deferred none)) (fun r e => by cases e; exact ⟨_, hKn, rfl⟩)
    obtain ⟨A2, c2, e2, hsF, _⟩ := hoF.form
    have hEE := HE0.out HON.out
    refine ⟨by simp, .inl ⟨_, _, rfl, run_takeDeferred hKn, ?_⟩⟩
    exact ⟨_, res_two rfl _ q2 q3 rfl rfl, ⟨A2, c2, by rw [hEE.1, hEE.2, ← e2], by rw [hEE.1]; exact hsF⟩, hlow.trans (belowK_b (w := w4) (n₀ := w.heap.size) (by have := HBW.out.size; omega) Wf D _ (.deferred none) hD hKn rfl rfl)⟩
  case stop =>
    rintro D cd pre W hD hsp hST hK
    obtain ⟨h1, h2, h3, rfl, p, x, rfl, htw⟩ := hST
    have g2 : Boxed (W.putObj D (.deferred none)) w.heap.size 35 (.slice none 0 0) := h2.kept (grownBy_putObj' W D _) (by simp; omega)
    have g3 : Boxed (W.putObj D (.deferred none)) (w.heap.size + 1) 22 (.int .i64 70) := h3.kept (grownBy_putObj' W D _) (by simp; omega)
    have HG2 := Lib.hid g2
    have HG3 := Lib.hid g3
    have HE := Lib.hid (h1.trans (belowK_b (w := w4) (n₀ := w.heap.size) (by omega) W D _ (.deferred none) hD hK rfl rfl))
    have HNO : Hid (¬ oneName T) := fun h => by
      obtain ⟨r, hr⟩ := preL_pre hsp
      rw [preL_snoc, List.append_assoc] at hr
      rw [hr] at h
      exact oneName_two htw h
    have HEE := Lib.hid (HE7.out HNO.out)
    clear h1 h2 h3 g2 g3 htw hsp
    gi_wp2
    refine ⟨by simp, .inl ⟨_, _, rfl, run_takeDeferred hK, ?_⟩⟩
    exact ⟨_, res_two rfl _ HG2.out HG3.out rfl rfl, ⟨none, 0, by rw [HEE.out.1, HEE.out.2]; rfl, by rw [HEE.out.1]; exact fun h => absurd rfl h⟩, HE.out⟩
end Go.Proofs.Ytlmihlepaoifiaa

/-
  CONTRACT: Holds.
-/
namespace Go.Proofs.Ytlmihlepaoifiaa
open Go.RowKit Go.Shelf Go.Maps

/-- which row facts break, of these attributes -/
noncomputable def rowsE (fs : List FactP) (T : List Att) : Int :=
  if fs.any (a1B T) = true then 71 else if fs.any (a2B T) = true then 72 else if metB kE kA (strF (a3B T) 0 fs) = true then 73 else if metB kA kV (strF (a4B T) 0 fs) = true then 74 else if fs.any a5B = true then 75 else if T.any a6B = true then 76 else 0
noncomputable def holdsE (fs : List FactP) : Int := if attsE fs = 0 then rowsE fs (attsL fs) else attsE fs
noncomputable def rowB (fs : List FactP) (T : List Att) : Nat → Bool
  | 0 => fs.any (a1B T)
  | 1 => fs.any (a2B T)
  | 2 => metB kE kA (strF (a3B T) 0 fs)
  | 3 => metB kA kV (strF (a4B T) 0 fs)
  | 4 => fs.any a5B
  | _ => T.any a6B
theorem rowsE_at {fs : List FactP} {T : List Att} {k : Nat} (hk : k < 6) (h : ∀ q, q < k → rowB fs T q = false) (hv : rowB fs T k = true) : rowsE fs T = 71 + (k : Int) := by
  have h0 : 0 < k → fs.any (a1B T) = false := fun hq => h 0 hq
  have h1 : 1 < k → fs.any (a2B T) = false := fun hq => h 1 hq
  have h2 : 2 < k → metB kE kA (strF (a3B T) 0 fs) = false := fun hq => h 2 hq
  have h3 : 3 < k → metB kA kV (strF (a4B T) 0 fs) = false := fun hq => h 3 hq
  have h4 : 4 < k → fs.any a5B = false := fun hq => h 4 hq
  unfold rowsE
  rcases (show k = 0 ∨ k = 1 ∨ k = 2 ∨ k = 3 ∨ k = 4 ∨ k = 5 by omega) with rfl | rfl | rfl | rfl | rfl | rfl
  · have hv' : fs.any (a1B T) = true := hv
    rw [if_pos hv']; rfl
  · have hv' : fs.any (a2B T) = true := hv
    rw [h0 (by omega), if_neg (by decide), if_pos hv']; rfl
  · have hv' : metB kE kA (strF (a3B T) 0 fs) = true := hv
    rw [h0 (by omega), if_neg (by decide), h1 (by omega), if_neg (by decide), if_pos hv']; rfl
  · have hv' : metB kA kV (strF (a4B T) 0 fs) = true := hv
    rw [h0 (by omega), if_neg (by decide), h1 (by omega), if_neg (by decide), h2 (by omega), if_neg (by decide), if_pos hv']; rfl
  · have hv' : fs.any a5B = true := hv
    rw [h0 (by omega), if_neg (by decide), h1 (by omega), if_neg (by decide), h2 (by omega), if_neg (by decide), h3 (by omega), if_neg (by decide), if_pos hv']; rfl
  · have hv' : T.any a6B = true := hv
    rw [h0 (by omega), if_neg (by decide), h1 (by omega), if_neg (by decide), h2 (by omega), if_neg (by decide), h3 (by omega), if_neg (by decide), h4 (by omega), if_neg (by decide), if_pos hv']; rfl
theorem rowsE_no {fs : List FactP} {T : List Att} (h : ∀ q, q < 6 → rowB fs T q = false) : rowsE fs T = 0 := by
  have h0 : fs.any (a1B T) = false := h 0 (by omega)
  have h1 : fs.any (a2B T) = false := h 1 (by omega)
  have h2 : metB kE kA (strF (a3B T) 0 fs) = false := h 2 (by omega)
  have h3 : metB kA kV (strF (a4B T) 0 fs) = false := h 3 (by omega)
  have h4 : fs.any a5B = false := h 4 (by omega)
  have h5 : T.any a6B = false := h 5 (by omega)
  unfold rowsE
  rw [h0, if_neg (by decide), h1, if_neg (by decide), h2, if_neg (by decide), h3, if_neg (by decide), h4, if_neg (by decide), h5, if_neg (by decide)]
/-- the numbers of attributes -/
theorem docFrom_id {all : List FactP} : ∀ (l : List FactP) (p : Option Int), ∀ a ∈ docFrom all p l, ∃ f ∈ l, a.id = f.e
  | [], _, a, h => by cases h
  | f :: l, p, a, h => by
    rcases List.mem_append.1 (show a ∈ (if p = some f.e then [] else (docL f.e all).toList) ++ docFrom all (some f.e) l from h) with h | h
    · split at h
      · cases h
      · have h := Option.mem_toList.1 h
        unfold docL at h
        split at h
        · cases h
        · cases h
          exact ⟨f, List.mem_cons_self .., rfl⟩
    · obtain ⟨g, hg, e⟩ := docFrom_id l _ a h
      exact ⟨g, List.mem_cons_of_mem _ hg, e⟩
theorem atts_id {fs : List FactP} (hw : ∀ f ∈ fs, WfF f) : ∀ a ∈ attsL fs, (Lit.int .i64 a.id).wf = true := fun a h => by
  rcases List.mem_append.1 h with h | h
  · exact (built_ok a h).id
  · obtain ⟨f, hf, e⟩ := docFrom_id _ _ a h
    rw [e]
    exact (hw f hf).2
theorem may_hold {fs : List FactP} (h : mayFs fs = true) : (∀ f ∈ fs, WfF f) ∧ ∀ f ∈ fs, ∀ s ∈ f.l, s.1 < s.2 := by
  have hm : ∀ f ∈ fs, mayF f = true := (of_decide_eq_true h).1
  refine ⟨fun f hf => ?_, fun f hf s hs => ?_⟩
  · have h1 := hm f hf
    unfold mayF mayD at h1
    simp only [Bool.and_eq_true] at h1
    have e1 := h1.1.1.1.1.1.1
    have e2 := h1.1.1.1.1.1.2
    have e3 : 0 ≤ f.e ∧ f.e < 9007199254740992 := of_decide_eq_true e1
    have e4 : 0 ≤ f.a ∧ f.a < 9007199254740992 := of_decide_eq_true e2
    have hw : ∀ x : Int, 0 ≤ x ∧ x < 9007199254740992 → (Lit.int .i64 x).wf = true := fun x hx => by
      simp [Lit.wf, IntKind.min, IntKind.max, IntKind.bits, IntKind.signed]
      omega
    exact ⟨hw _ e4, hw _ e3⟩
  · have h1 := hm f hf
    unfold mayF at h1
    simp only [Bool.and_eq_true] at h1
    have h2 : SetL f.l := of_decide_eq_true h1.2
    exact h2.2 s hs

/-- a row asked where the row's box lies behind it -/
theorem at_box {W : World} {f : FuncId} {args : Array Value} {o : Obj} {v : Bool} (h : ∀ X, Below W.heap.size W X → Calls Try.prog f args X fun e w' => e = .returned (.bool v) ∧ Below X.heap.size X w') : Calls Try.prog f args (W.alloc o) fun e w' => e = .returned (.bool v) ∧ Below (W.alloc o).heap.size (W.alloc o) w' := by
  have hb : Below W.heap.size W (W.alloc o) := (Below.refl _ _).alloc (Nat.le_refl _) o
  exact h _ hb
set_option maxRecDepth 100000 in
set_option maxHeartbeats 8000000 in
theorem holds_big (A : Option Addr) (c0 : Nat) (fs : List FactP) (w : World) (hs : FVa w (.slice A fs.length c0) fs) (hl : fs.length ≤ 1000) (hS : sumS fs ≤ 100000) (hO : ∀ f ∈ fs, f.l.length ≤ 1400) (hz : ∀ f ∈ fs, f.s.size ≤ maxLen ∧ f.l.length ≤ 9223372036854775807) (hk : ∀ f ∈ fs, ∀ s ∈ f.l, SpOk s) :
    Calls Try.prog 4 #[.slice A fs.length c0] w fun e w' => e = .returned (.int .i64 (holdsE fs)) ∧ Below w.heap.size w w' := by
  have HO := Lib.hid (show Calls Try.prog 8 #[.slice A fs.length c0] w (OfR w fs) from (callsIn_wide (n := 9)).1 (by
    cases h : mayFs fs with
    | false => exact of_bad 9 A c0 fs w hs (by omega) hz h
    | true => exact of_good 9 (Nat.le_of_ble_eq_true rfl) A c0 fs w hs (by omega) hz h))
  have HS := Lib.hid hs
  have HTL := Lib.hid (atts_len fs)
  by_cases h0 : attsE fs = 0
  rotate_left
  · have HE : Hid (holdsE fs = attsE fs) := by show _ = _; unfold holdsE; rw [if_neg h0]
    obtain ⟨ec, hec⟩ : ∃ ec, attsE fs = ec := ⟨_, rfl⟩
    have HEC := Lib.hid hec
    rw [hec] at h0
    have hd : (ec != 0) = true := by simp [h0]
    clear hs hz hk hO hec
    go_enter Try.func4, Try.ntmps4
    go_wp2_with fail
    refine HO.out.mono ?_
    rintro e w1 ⟨⟨A2, c2, rfl, _⟩, hb1⟩
    rw [HEC.out]
    have HB1 := Lib.hid hb1
    clear hb1 HO
    go_wp2
    go_ret
    exact ⟨by rw [HE.out, HEC.out]; rfl, HB1.out⟩
  · have hmay : mayFs fs = true := by
      unfold attsE at h0
      split at h0
      · assumption
      · cases h0
    have HHA : Hid (HoldA fs) := ⟨by omega, hS, hO, (may_hold hmay).1, (may_hold hmay).2, hk⟩
    have HID := Lib.hid (atts_id (may_hold hmay).1)
    have hres : resL fs = attsL fs := by unfold resL; rw [if_pos h0]
    have HRE9 := Lib.hid hres
    have HE : Hid (holdsE fs = rowsE fs (attsL fs)) := by show _ = _; unfold holdsE; rw [if_pos h0]
    have H0 := Lib.hid h0
    clear hs hz hk hO h0 hmay hres
    go_enter Try.func4, Try.ntmps4
    go_wp2_with fail
    refine HO.out.mono ?_
    rintro e w1 ⟨⟨A2, c2, rfl, hsa⟩, hb1⟩
    rw [H0.out]
    rw [HRE9.out] at hsa ⊢
    have HB1 := Lib.hid hb1
    have HRW := Lib.hid (rows_any A c0 fs A2 c2 (attsL fs) w1 (HS.out.next hb1) hsa (by have := HTL.out; omega) HID.out)
    clear hb1 hsa HO
    go_wp2_with fail
    refine HRW.out.mono ?_
    rintro e w2 ⟨⟨bR, bX, bT, bM, bB, bI, bS, rfl, hsx, hre⟩, hb2⟩
    have HB2 := Lib.hid (HB1.out.trans (hb2.mono HB1.out.size))
    have HSX2 := Lib.hid hsx
    have HRE2 := Lib.hid hre
    clear hsx hre hb2 HRW
    go_wp2
    go_loopg [19] 6 (fun g i wr => ∃ k : Nat, i = .int .i64 k ∧ k + g = 6 ∧ Hid (∀ q, q < k → rowB fs (attsL fs) q = false) ∧ Hid (SixAt wr bR bX bT bB bI bS) ∧ Hid (RowsE wr A c0 fs A2 c2 (attsL fs) bX bT bM bB bI bS) ∧ Hid (Below w.heap.size w wr))
    case atStart => exact ⟨0, rfl, rfl, fun q h => absurd h (by omega), HSX2.out, HRE2.out, HB2.out⟩
    case round =>
      obtain ⟨k, rfl, hk, HN, HSX, HRE, HB⟩ := hrel
      cases gk with
      | zero =>
        obtain rfl : k = 6 := by omega
        have HZ : Hid (rowsE fs (attsL fs) = 0) := rowsE_no HN.out
        go_wp2
        go_ret
        exact ⟨by rw [HE.out, HZ.out]; rfl, HB.out⟩
      | succ g =>
        rcases (show k = 0 ∨ k = 1 ∨ k = 2 ∨ k = 3 ∨ k = 4 ∨ k = 5 by omega) with rfl | rfl | rfl | rfl | rfl | rfl
        · have HC := Lib.hid (fun (o : Obj) => at_box (W := wr) (o := o) (fun X hX => row1_any A c0 fs A2 c2 (attsL fs) bX bT bM bB bI bS X (HRE.out.next hX) HHA.out))
          have q0 := HSX.out.cell 0
          have q1 := HSX.out.cell 1
          simp at q0 q1
          go_wp2_with fail
          refine (HC.out _).mono ?_
          rintro e w3 ⟨rfl, hb3⟩
          obtain ⟨v, hv⟩ : ∃ v, fs.any (a1B (attsL fs)) = v := ⟨_, rfl⟩
          have HV : Hid (rowB fs (attsL fs) 0 = v) := hv
          rw [hv]
          have hbx := (hb3.cell (p := ⟨wr.heap.size, 0, none⟩) (by simp)).trans (World.cell?_alloc_new _ _ _ _)
          simp at hbx
          have hbw := ((Below.refl wr.heap.size wr).alloc (Nat.le_refl _) _).trans (hb3.mono (by simp))
          have HSX3 := Lib.hid (HSX.out.next hbw)
          have HRE3 := Lib.hid (HRE.out.next hbw)
          have HB3 := Lib.hid (HB.out.trans (hbw.mono HB.out.size))
          clear HC q0 q1 hb3 hbw hv
          cases v with
          | true =>
            have HZ : Hid (rowsE fs (attsL fs) = 71) := rowsE_at (k := 0) (by omega) HN.out HV.out
            go_wp2
            go_ret
            exact ⟨by rw [HE.out, HZ.out]; rfl, HB3.out⟩
          | false =>
            go_wp2
            go_roundg g
            case measure => omega
            case rel =>
              refine ⟨0 + 1, by go_num, by omega, fun q hq => ?_, HSX3.out, HRE3.out, HB3.out⟩
              by_cases hqk : q < 0
              · exact HN.out q hqk
              · obtain rfl : q = 0 := by omega
                exact HV.out
        · have HC := Lib.hid (fun (o : Obj) => at_box (W := wr) (o := o) (fun X hX => row2_any A c0 fs A2 c2 (attsL fs) bX bT bM bB bI bS X (HRE.out.next hX) HHA.out))
          have q0 := HSX.out.cell 2
          have q1 := HSX.out.cell 3
          simp at q0 q1
          go_wp2_with fail
          refine (HC.out _).mono ?_
          rintro e w3 ⟨rfl, hb3⟩
          obtain ⟨v, hv⟩ : ∃ v, fs.any (a2B (attsL fs)) = v := ⟨_, rfl⟩
          have HV : Hid (rowB fs (attsL fs) 1 = v) := hv
          rw [hv]
          have hbx := (hb3.cell (p := ⟨wr.heap.size, 0, none⟩) (by simp)).trans (World.cell?_alloc_new _ _ _ _)
          simp at hbx
          have hbw := ((Below.refl wr.heap.size wr).alloc (Nat.le_refl _) _).trans (hb3.mono (by simp))
          have HSX3 := Lib.hid (HSX.out.next hbw)
          have HRE3 := Lib.hid (HRE.out.next hbw)
          have HB3 := Lib.hid (HB.out.trans (hbw.mono HB.out.size))
          clear HC q0 q1 hb3 hbw hv
          cases v with
          | true =>
            have HZ : Hid (rowsE fs (attsL fs) = 72) := rowsE_at (k := 1) (by omega) HN.out HV.out
            go_wp2
            go_ret
            exact ⟨by rw [HE.out, HZ.out]; rfl, HB3.out⟩
          | false =>
            go_wp2
            go_roundg g
            case measure => omega
            case rel =>
              refine ⟨1 + 1, by go_num, by omega, fun q hq => ?_, HSX3.out, HRE3.out, HB3.out⟩
              by_cases hqk : q < 1
              · exact HN.out q hqk
              · obtain rfl : q = 1 := by omega
                exact HV.out
        · have HC := Lib.hid (fun (o : Obj) => at_box (W := wr) (o := o) (fun X hX => row3_any A c0 fs A2 c2 (attsL fs) bX bT bM bB bI bS X (HRE.out.next hX) HHA.out))
          have q0 := HSX.out.cell 4
          have q1 := HSX.out.cell 5
          simp at q0 q1
          go_wp2_with fail
          refine (HC.out _).mono ?_
          rintro e w3 ⟨rfl, hb3⟩
          obtain ⟨v, hv⟩ : ∃ v, metB kE kA (strF (a3B (attsL fs)) 0 fs) = v := ⟨_, rfl⟩
          have HV : Hid (rowB fs (attsL fs) 2 = v) := hv
          rw [hv]
          have hbx := (hb3.cell (p := ⟨wr.heap.size, 0, none⟩) (by simp)).trans (World.cell?_alloc_new _ _ _ _)
          simp at hbx
          have hbw := ((Below.refl wr.heap.size wr).alloc (Nat.le_refl _) _).trans (hb3.mono (by simp))
          have HSX3 := Lib.hid (HSX.out.next hbw)
          have HRE3 := Lib.hid (HRE.out.next hbw)
          have HB3 := Lib.hid (HB.out.trans (hbw.mono HB.out.size))
          clear HC q0 q1 hb3 hbw hv
          cases v with
          | true =>
            have HZ : Hid (rowsE fs (attsL fs) = 73) := rowsE_at (k := 2) (by omega) HN.out HV.out
            go_wp2
            go_ret
            exact ⟨by rw [HE.out, HZ.out]; rfl, HB3.out⟩
          | false =>
            go_wp2
            go_roundg g
            case measure => omega
            case rel =>
              refine ⟨2 + 1, by go_num, by omega, fun q hq => ?_, HSX3.out, HRE3.out, HB3.out⟩
              by_cases hqk : q < 2
              · exact HN.out q hqk
              · obtain rfl : q = 2 := by omega
                exact HV.out
        · have HC := Lib.hid (fun (o : Obj) => at_box (W := wr) (o := o) (fun X hX => row4_any A c0 fs A2 c2 (attsL fs) bX bT bM bB bI bS X (HRE.out.next hX) HHA.out))
          have q0 := HSX.out.cell 6
          have q1 := HSX.out.cell 7
          simp at q0 q1
          go_wp2_with fail
          refine (HC.out _).mono ?_
          rintro e w3 ⟨rfl, hb3⟩
          obtain ⟨v, hv⟩ : ∃ v, metB kA kV (strF (a4B (attsL fs)) 0 fs) = v := ⟨_, rfl⟩
          have HV : Hid (rowB fs (attsL fs) 3 = v) := hv
          rw [hv]
          have hbx := (hb3.cell (p := ⟨wr.heap.size, 0, none⟩) (by simp)).trans (World.cell?_alloc_new _ _ _ _)
          simp at hbx
          have hbw := ((Below.refl wr.heap.size wr).alloc (Nat.le_refl _) _).trans (hb3.mono (by simp))
          have HSX3 := Lib.hid (HSX.out.next hbw)
          have HRE3 := Lib.hid (HRE.out.next hbw)
          have HB3 := Lib.hid (HB.out.trans (hbw.mono HB.out.size))
          clear HC q0 q1 hb3 hbw hv
          cases v with
          | true =>
            have HZ : Hid (rowsE fs (attsL fs) = 74) := rowsE_at (k := 3) (by omega) HN.out HV.out
            go_wp2
            go_ret
            exact ⟨by rw [HE.out, HZ.out]; rfl, HB3.out⟩
          | false =>
            go_wp2
            go_roundg g
            case measure => omega
            case rel =>
              refine ⟨3 + 1, by go_num, by omega, fun q hq => ?_, HSX3.out, HRE3.out, HB3.out⟩
              by_cases hqk : q < 3
              · exact HN.out q hqk
              · obtain rfl : q = 3 := by omega
                exact HV.out
        · have HC := Lib.hid (fun (o : Obj) => at_box (W := wr) (o := o) (fun X hX => row5_any A c0 fs A2 c2 (attsL fs) bX bT bM bB bI bS X (HRE.out.next hX) HHA.out))
          have q0 := HSX.out.cell 8
          have q1 := HSX.out.cell 9
          simp at q0 q1
          go_wp2_with fail
          refine (HC.out _).mono ?_
          rintro e w3 ⟨rfl, hb3⟩
          obtain ⟨v, hv⟩ : ∃ v, fs.any a5B = v := ⟨_, rfl⟩
          have HV : Hid (rowB fs (attsL fs) 4 = v) := hv
          rw [hv]
          have hbx := (hb3.cell (p := ⟨wr.heap.size, 0, none⟩) (by simp)).trans (World.cell?_alloc_new _ _ _ _)
          simp at hbx
          have hbw := ((Below.refl wr.heap.size wr).alloc (Nat.le_refl _) _).trans (hb3.mono (by simp))
          have HSX3 := Lib.hid (HSX.out.next hbw)
          have HRE3 := Lib.hid (HRE.out.next hbw)
          have HB3 := Lib.hid (HB.out.trans (hbw.mono HB.out.size))
          clear HC q0 q1 hb3 hbw hv
          cases v with
          | true =>
            have HZ : Hid (rowsE fs (attsL fs) = 75) := rowsE_at (k := 4) (by omega) HN.out HV.out
            go_wp2
            go_ret
            exact ⟨by rw [HE.out, HZ.out]; rfl, HB3.out⟩
          | false =>
            go_wp2
            go_roundg g
            case measure => omega
            case rel =>
              refine ⟨4 + 1, by go_num, by omega, fun q hq => ?_, HSX3.out, HRE3.out, HB3.out⟩
              by_cases hqk : q < 4
              · exact HN.out q hqk
              · obtain rfl : q = 4 := by omega
                exact HV.out
        · have HC := Lib.hid (fun (o : Obj) => at_box (W := wr) (o := o) (fun X hX => row6_any A c0 fs A2 c2 (attsL fs) bX bT bM bB bI bS X (HRE.out.next hX) (by have := HTL.out; omega)))
          have q0 := HSX.out.cell 10
          have q1 := HSX.out.cell 11
          simp at q0 q1
          go_wp2_with fail
          refine (HC.out _).mono ?_
          rintro e w3 ⟨rfl, hb3⟩
          obtain ⟨v, hv⟩ : ∃ v, (attsL fs).any a6B = v := ⟨_, rfl⟩
          have HV : Hid (rowB fs (attsL fs) 5 = v) := hv
          rw [hv]
          have hbx := (hb3.cell (p := ⟨wr.heap.size, 0, none⟩) (by simp)).trans (World.cell?_alloc_new _ _ _ _)
          simp at hbx
          have hbw := ((Below.refl wr.heap.size wr).alloc (Nat.le_refl _) _).trans (hb3.mono (by simp))
          have HSX3 := Lib.hid (HSX.out.next hbw)
          have HRE3 := Lib.hid (HRE.out.next hbw)
          have HB3 := Lib.hid (HB.out.trans (hbw.mono HB.out.size))
          clear HC q0 q1 hb3 hbw hv
          cases v with
          | true =>
            have HZ : Hid (rowsE fs (attsL fs) = 76) := rowsE_at (k := 5) (by omega) HN.out HV.out
            go_wp2
            go_ret
            exact ⟨by rw [HE.out, HZ.out]; rfl, HB3.out⟩
          | false =>
            go_wp2
            go_roundg g
            case measure => omega
            case rel =>
              refine ⟨5 + 1, by go_num, by omega, fun q hq => ?_, HSX3.out, HRE3.out, HB3.out⟩
              by_cases hqk : q < 5
              · exact HN.out q hqk
              · obtain rfl : q = 5 := by omega
                exact HV.out
theorem holds_any (A : Option Addr) (c0 : Nat) (fs : List FactP) (w : World) (hs : FVa w (.slice A fs.length c0) fs) (hl : fs.length ≤ 1000) (hS : sumS fs ≤ 1400) (hz : ∀ f ∈ fs, f.s.size ≤ maxLen ∧ f.l.length ≤ 9223372036854775807) (hk : ∀ f ∈ fs, ∀ s ∈ f.l, SpOk s) :
    Calls Try.prog 4 #[.slice A fs.length c0] w fun e w' => e = .returned (.int .i64 (holdsE fs)) ∧ Below w.heap.size w w' :=
  holds_big A c0 fs w hs hl (by omega) (fun f hf => by have := sumS_mem hf; omega) hz hk
end Go.Proofs.Ytlmihlepaoifiaa

/-
  CONTRACTS: the chapter's own facts, and that they make its attribute.
-/
namespace Go.Proofs.Ytlmihlepaoifiaa
open Go.RowKit Go.Shelf

set_option maxRecDepth 100000 in
set_option maxHeartbeats 1000000 in
theorem fact_any (e a k m : Int) (s : ByteArray) (w : World) :
    Calls Try.prog 6 #[.int .i64 e, .int .i64 a, .agg #[.int .i64 k, .int .i64 m, .string s]] w fun r w' => (∃ g, r = .returned (.agg #[.int .i64 e, .int .i64 a, .int .i64 k, .int .i64 m, .string s, .slice (some ⟨g, 0, none⟩) 1 1]) ∧ SlS w' w'.heap.size (some ⟨g, 0, none⟩) allS) ∧ Below w.heap.size w w' := by
  go_enter Try.func6, Try.ntmps6
  go_wp2
  have hs : SlS (((w.alloc (.cells #[.int .i64 k, .int .i64 m, .string s] 27)).alloc (.cells #[.int .i64 e, .int .i64 a, .int .i64 k, .int .i64 m, .string s, .slice (some ⟨w.heap.size + 1 + 1, 0, none⟩) 1 1] 30)).alloc (.cells #[.int .i64 (-9223372036854775808), .int .i64 9223372036854775807] 34)) (w.heap.size + 1 + 1 + 1) (some ⟨w.heap.size + 1 + 1, 0, none⟩) allS := fun _ => by
    have hh := heap_alloc_new ((w.alloc (.cells #[.int .i64 k, .int .i64 m, .string s] 27)).alloc (.cells #[.int .i64 e, .int .i64 a, .int .i64 k, .int .i64 m, .string s, .slice (some ⟨w.heap.size + 1 + 1, 0, none⟩) 1 1] 30)) (.cells #[.int .i64 (-9223372036854775808), .int .i64 9223372036854775807] 34)
    rw [World.size_alloc, World.size_alloc] at hh
    refine ⟨w.heap.size + 1 + 1, 0, rfl, by omega, fun j q hq => ?_⟩
    cases j with
    | zero =>
      cases hq
      exact ⟨by unfold World.cell?; simp only [Nat.zero_mul, Nat.add_zero]; rw [hh]; rfl, by unfold World.cell?; simp only [Nat.zero_mul, Nat.add_zero, Nat.zero_add]; rw [hh]; rfl⟩
    | succ j => simp [allS] at hq
  refine bodyPost_ret (v := .agg #[.int .i64 e, .int .i64 a, .int .i64 k, .int .i64 m, .string s, .slice (some ⟨w.heap.size + 1 + 1, 0, none⟩) 1 1]) ?_ rfl ⟨⟨w.heap.size + 1 + 1, rfl, hs.more (by simp)⟩, (((Below.refl _ _).alloc (Nat.le_refl _) _).alloc (by simp) _).alloc (by simp; omega) _⟩
  clear hs
  rw [results_cell_one rfl]
  go_simp
/-- the chapter's facts -/
def nmU : ByteArray := ⟨#[117, 115, 101, 114, 47, 97, 103, 101]⟩
def fewF : List FactP := [⟨10, 1, 7, 0, nmU, allS⟩, ⟨10, 2, 1, 1, ⟨#[]⟩, allS⟩]
def ageA : Att := ⟨10, nmU, 1, false, 0, false, false⟩
theorem fewF_e : attsE fewF = 0 := by decide +kernel
theorem fewF_l : resL fewF = builtL ++ [ageA] := by
  unfold resL
  rw [if_pos fewF_e]
  rfl
set_option maxRecDepth 100000 in
set_option maxHeartbeats 2000000 in
theorem few_any (w : World) :
    Calls Try.prog 5 #[.slice none 0 0] w fun r w' => (∃ g, r = .returned (.slice (some ⟨g, 0, none⟩) 2 2) ∧ FVa w' (.slice (some ⟨g, 0, none⟩) fewF.length 2) fewF) ∧ Below w.heap.size w w' := by
  go_enter Try.func5, Try.ntmps5
  go_wp2_with fail
  refine (fact_any 10 1 7 0 nmU w).mono ?_
  rintro r w1 ⟨⟨g1, rfl, hs1⟩, hb1⟩
  have HS1 := Lib.hid hs1
  have HB1 := Lib.hid hb1
  clear hs1 hb1
  go_wp2_with fail
  refine (fact_any 10 2 1 1 ⟨#[]⟩ w1).mono ?_
  rintro r w2 ⟨⟨g2, rfl, hs2⟩, hb2⟩
  have HS2 := Lib.hid hs2
  have HS1b := Lib.hid ((HS1.out.next hb2 (Nat.le_refl _)).more hb2.size)
  have HB2 := Lib.hid (HB1.out.trans (hb2.mono HB1.out.size))
  clear hs2 hb2 HS1
  go_wp2
  have hal : Below w2.heap.size w2 (w2.alloc (.cells #[.int .i64 10, .int .i64 1, .int .i64 7, .int .i64 0, .string nmU, .slice (some ⟨g1, 0, none⟩) 1 1, .int .i64 10, .int .i64 2, .int .i64 1, .int .i64 1, .string ⟨#[]⟩, .slice (some ⟨g2, 0, none⟩) 1 1] 30)) := (Below.refl _ _).alloc (Nat.le_refl _) _
  have hh := heap_alloc_new w2 (.cells #[.int .i64 10, .int .i64 1, .int .i64 7, .int .i64 0, .string nmU, .slice (some ⟨g1, 0, none⟩) 1 1, .int .i64 10, .int .i64 2, .int .i64 1, .int .i64 1, .string ⟨#[]⟩, .slice (some ⟨g2, 0, none⟩) 1 1] 30)
  have h1 := (HS1b.out.next hal (Nat.le_refl _)).more hal.size
  have h2 := (HS2.out.next hal (Nat.le_refl _)).more hal.size
  have hm : (1 : Nat) ≤ maxLen := by decide
  have hm2 : (2 : Nat) ≤ maxLen := by decide
  have hF : FVa (w2.alloc (.cells #[.int .i64 10, .int .i64 1, .int .i64 7, .int .i64 0, .string nmU, .slice (some ⟨g1, 0, none⟩) 1 1, .int .i64 10, .int .i64 2, .int .i64 1, .int .i64 1, .string ⟨#[]⟩, .slice (some ⟨g2, 0, none⟩) 1 1] 30)) (.slice (some ⟨w2.heap.size, 0, none⟩) fewF.length 2) fewF := by
    refine ⟨_, _, rfl, fun _ => ⟨w2.heap.size, 0, rfl, by simp, fun j f hf => ?_⟩, Nat.le_refl _, hm2⟩
    match j, hf with
    | 0, hf =>
      cases hf
      refine ⟨.slice (some ⟨g1, 0, none⟩) 1 1, ⟨?_, ?_, ?_, ?_, ?_, ?_⟩, ⟨_, 1, rfl, h1, Nat.le_refl _, hm⟩⟩ <;> (unfold World.cell?; simp only [Nat.zero_mul, Nat.add_zero, Nat.zero_add]; rw [hh]; rfl)
    | 1, hf =>
      cases hf
      refine ⟨.slice (some ⟨g2, 0, none⟩) 1 1, ⟨?_, ?_, ?_, ?_, ?_, ?_⟩, ⟨_, 1, rfl, h2, Nat.le_refl _, hm⟩⟩ <;> (unfold World.cell?; simp only [Nat.one_mul, Nat.zero_add]; rw [hh]; rfl)
    | j + 2, hf => simp [fewF] at hf
  have HF := Lib.hid hF
  have HB := Lib.hid (HB2.out.alloc HB2.out.size (.cells #[.int .i64 10, .int .i64 1, .int .i64 7, .int .i64 0, .string nmU, .slice (some ⟨g1, 0, none⟩) 1 1, .int .i64 10, .int .i64 2, .int .i64 1, .int .i64 1, .string ⟨#[]⟩, .slice (some ⟨g2, 0, none⟩) 1 1] 30))
  clear hal hh h1 h2 hF
  go_ret
  exact ⟨⟨_, rfl, HF.out⟩, HB.out⟩
set_option maxRecDepth 100000 in
set_option maxHeartbeats 4000000 in
theorem alive_any (w : World) :
    Calls Try.prog 10 #[] w fun r w' => r = .returned (.bool true) ∧ Below w.heap.size w w' := by
  go_enter Try.func10, Try.ntmps10
  go_wp2_with fail
  refine (few_any w).mono ?_
  rintro r w1 ⟨⟨g, rfl, hf⟩, hb1⟩
  have HB1 := Lib.hid hb1
  have HO := Lib.hid (show Calls Try.prog 8 #[.slice (some ⟨g, 0, none⟩) 2 2] w1 (OfR w1 fewF) from (callsIn_wide (n := 9)).1 (of_good 9 (Nat.le_of_ble_eq_true rfl) _ 2 fewF w1 hf (by decide) (by decide) (by decide +kernel)))
  clear hf hb1
  go_wp2_with fail
  refine HO.out.mono ?_
  rintro r w2 ⟨⟨A2, c2, rfl, hsa⟩, hb2⟩
  have HB2 := Lib.hid (HB1.out.trans (hb2.mono HB1.out.size))
  rw [fewF_l] at hsa
  rw [fewF_l, fewF_e]
  have hl8 : (builtL ++ [ageA]).length = 8 := rfl
  obtain ⟨b, o, rfl, hlt, hp⟩ := hsa.at_ (show 7 < (builtL ++ [ageA]).length by decide)
  obtain ⟨b', o', hA, _, hq⟩ := hsa.at_ (show 0 < (builtL ++ [ageA]).length by decide)
  injection hA with hA
  injection hA with e1 e2
  subst e1
  subst e2
  rw [hl8]
  have hp' : AtAt w2 b (o + 49) ageA := hp
  have hq' : AtAt w2 b o ⟨1, ⟨#[100, 98, 47, 110, 97, 109, 101]⟩, 7, false, 2, false, false⟩ := by
    have h9 : AtAt w2 b (o + 0 * 7) ⟨1, ⟨#[100, 98, 47, 110, 97, 109, 101]⟩, 7, false, 2, false, false⟩ := hq
    rwa [Nat.zero_mul, Nat.add_zero] at h9
  have p0 : w2.cell? ⟨b, o + 49, none⟩ = some (.int .i64 10) := hp'.c0
  have p1 : w2.cell? ⟨b, o + 49 + 1, none⟩ = some (.string ⟨#[117, 115, 101, 114, 47, 97, 103, 101]⟩) := hp'.c1
  have p2 : w2.cell? ⟨b, o + 49 + 2, none⟩ = some (.int .i64 1) := hp'.c2
  have p3 : w2.cell? ⟨b, o + 49 + 3, none⟩ = some (.bool false) := hp'.c3
  have p4 : w2.cell? ⟨b, o + 49 + 4, none⟩ = some (.int .i64 0) := hp'.c4
  have p5 : w2.cell? ⟨b, o + 49 + 5, none⟩ = some (.bool false) := hp'.c5
  have p6 : w2.cell? ⟨b, o + 49 + 6, none⟩ = some (.bool false) := hp'.c6
  have q0 : w2.cell? ⟨b, o, none⟩ = some (.int .i64 1) := hq'.c0
  have q1 : w2.cell? ⟨b, o + 1, none⟩ = some (.string ⟨#[100, 98, 47, 110, 97, 109, 101]⟩) := hq'.c1
  have q2 : w2.cell? ⟨b, o + 2, none⟩ = some (.int .i64 7) := hq'.c2
  have q3 : w2.cell? ⟨b, o + 3, none⟩ = some (.bool false) := hq'.c3
  have q4 : w2.cell? ⟨b, o + 4, none⟩ = some (.int .i64 2) := hq'.c4
  have q5 : w2.cell? ⟨b, o + 5, none⟩ = some (.bool false) := hq'.c5
  have q6 : w2.cell? ⟨b, o + 6, none⟩ = some (.bool false) := hq'.c6
  have e1 := fun W => eqAtt ageA W
  have e2 := fun W => eqAtt ⟨1, ⟨#[100, 98, 47, 110, 97, 109, 101]⟩, 7, false, 2, false, false⟩ W
  simp only [attV, ageA, nmU] at e1 e2
  clear hp hq hp' hq' hsa hb2 HO hl8
  go_wp2
  go_ret
  exact ⟨rfl, HB2.out⟩
end Go.Proofs.Ytlmihlepaoifiaa

/-
  PLAIN: what Holds answers of the facts of SchemaNames.
-/
namespace Go.Proofs.Ytlmihlepaoifiaa

open Classical in
theorem metB_not {k1 k2 : StrP → StrP → Int} {l : List StrP} : metB k1 k2 l = true ↔ ¬ l.Pairwise (Apart k1 k2) := by
  unfold metB
  exact decide_eq_true_iff
instance (k1 k2 : StrP → StrP → Int) : DecidableRel (Apart k1 k2) := fun x y => by unfold Apart; infer_instance
def metC (k1 k2 : StrP → StrP → Int) (l : List StrP) : Bool := !decide (l.Pairwise (Apart k1 k2))
theorem metC_is (k1 k2 : StrP → StrP → Int) (l : List StrP) : metB k1 k2 l = metC k1 k2 l := by
  have h1 := metB_not (k1 := k1) (k2 := k2) (l := l)
  have h2 : metC k1 k2 l = true ↔ ¬ l.Pairwise (Apart k1 k2) := by unfold metC; rw [Bool.not_eq_true', decide_eq_false_iff_not]
  exact Bool.eq_iff_iff.2 (h1.trans h2.symm)
def rowsC (fs : List FactP) (T : List Att) : Int :=
  if fs.any (a1B T) = true then 71 else if fs.any (a2B T) = true then 72 else if metC kE kA (strF (a3B T) 0 fs) = true then 73 else if metC kA kV (strF (a4B T) 0 fs) = true then 74 else if fs.any a5B = true then 75 else if T.any a6B = true then 76 else 0
theorem rowsC_is (fs : List FactP) (T : List Att) : rowsE fs T = rowsC fs T := by unfold rowsE rowsC; rw [metC_is, metC_is]
def holdsC (fs : List FactP) : Int := if attsE fs = 0 then rowsC fs (attsL fs) else attsE fs
theorem holdsC_is (fs : List FactP) : holdsE fs = holdsC fs := by unfold holdsE holdsC; rw [rowsC_is]
def neF : ByteArray := ⟨#[]⟩
def mf1 : List FactP := [⟨11, 10, 1, 5, neF, allS⟩]
def mf2 : List FactP := [⟨11, 10, 3, 0, ⟨#[120]⟩, allS⟩]
def nfA : FactP := ⟨11, 10, 1, 5, neF, [(0, 9)]⟩
def mf3 : List FactP := [nfA, ⟨11, 10, 1, 6, neF, [(8, 20)]⟩]
def mf4 : List FactP := [⟨11, 99, 1, 5, neF, allS⟩]
def mf5 : List FactP := [nfA, ⟨11, 10, 1, 6, neF, [(9, 20)]⟩]
def nfU : FactP := ⟨10, 4, 1, 1, neF, allS⟩
def mf6 : List FactP := [nfU, nfA, ⟨12, 10, 1, 5, neF, [(9, 20)]⟩]
def mf7 : List FactP := [nfU, nfA, ⟨12, 10, 1, 5, neF, [(8, 20)]⟩]
def mf8 : List FactP := [⟨10, 7, 3, 0, neF, [(0, 9)]⟩]
def mf9 : List FactP := [⟨10, 5, 2, 1, neF, allS⟩]
def mf10 : List FactP := [⟨11, 1, 7, 0, nmU, allS⟩, ⟨11, 2, 1, 2, neF, allS⟩]
def mf11 : List FactP := [⟨0, 0, 0, 0, neF, []⟩]
theorem nm1_h : holdsE (fewF ++ mf1) = 0 := (holdsC_is _).trans (by decide +kernel)
theorem nm2_h : holdsE (fewF ++ mf2) = 72 := (holdsC_is _).trans (by decide +kernel)
theorem nm3_h : holdsE (fewF ++ mf3) = 73 := (holdsC_is _).trans (by decide +kernel)
theorem nm4_h : holdsE (fewF ++ mf4) = 71 := (holdsC_is _).trans (by decide +kernel)
theorem nm5_h : holdsE (fewF ++ mf5) = 0 := (holdsC_is _).trans (by decide +kernel)
theorem nm6_h : holdsE (fewF ++ mf6) = 0 := (holdsC_is _).trans (by decide +kernel)
theorem nm7_h : holdsE (fewF ++ mf7) = 74 := (holdsC_is _).trans (by decide +kernel)
theorem nm8_h : holdsE (fewF ++ mf8) = 75 := (holdsC_is _).trans (by decide +kernel)
theorem nm9_h : holdsE (fewF ++ mf9) = 76 := (holdsC_is _).trans (by decide +kernel)
theorem nm10_h : holdsE (fewF ++ mf10) = 70 := (holdsC_is _).trans (by decide +kernel)
theorem nm11_h : holdsE mf11 = 60 := (holdsC_is _).trans (by decide +kernel)
end Go.Proofs.Ytlmihlepaoifiaa

/-
  CONTRACTS: the chapter's facts with some more behind them; a number.
-/
namespace Go.Proofs.Ytlmihlepaoifiaa
open Go.RowKit Go.Shelf

def cellsM (p : FactP × Value) : List Value := [.int .i64 p.1.e, .int .i64 p.1.a, .int .i64 p.1.k, .int .i64 p.1.m, .string p.1.s, p.2]
theorem addM (g o j : Nat) : Addr.add ⟨g, o, none⟩ j = ⟨g, o + j, none⟩ := by
  unfold Addr.add
  split
  · subst_vars; rfl
  · rfl
/-- a row of facts reads as facts -/
theorem fva_row {W : World} {B : Nat} {v : Value} {ps : List (FactP × Value)} (h : W.ownsRow B 30 6 v ps.length (ps.flatMap cellsM)) (hs : ∀ p ∈ ps, SVa W p.2 p.1.l) : ∃ A c, v = .slice A (ps.map (·.1)).length c ∧ FVa W (.slice A (ps.map (·.1)).length c) (ps.map (·.1)) := by
  rcases h.2 with ⟨rfl, h0⟩ | ⟨g, cap, cur, rfl, hgB, hgb, hlc, hcm, _⟩
  · have : ps = [] := List.length_eq_zero_iff.1 h0
    subst this
    exact ⟨none, 0, rfl, none, 0, rfl, fun hl => absurd rfl hl, Nat.le_refl _, Nat.zero_le _⟩
  · refine ⟨_, _, by rw [List.length_map], _, _, rfl, fun _ => ⟨g, 0, rfl, (Array.getElem?_eq_some_iff.1 hgb).1, fun j x hx => ?_⟩, by rw [List.length_map]; exact hlc, hcm⟩
    rw [List.getElem?_map] at hx
    obtain ⟨p, hp, rfl⟩ := Option.map_eq_some_iff.1 hx
    have hc : ∀ i u, i < 6 → (cellsM p)[i]? = some u → W.cell? ⟨g, 0 + j * 6 + i, none⟩ = some u := fun i u hi hu => by
      have := World.ownsRow.cells h (g := g) rfl (j * 6 + i) u (by rw [flatG (enc := cellsM) (k := 6) (fun _ => rfl) hi, hp]; exact hu)
      rw [addM] at this
      rw [show (0 : Nat) + j * 6 + i = 0 + (j * 6 + i) by omega]
      exact this
    exact ⟨p.2, ⟨hc 0 _ (by decide) rfl, hc 1 _ (by decide) rfl, hc 2 _ (by decide) rfl, hc 3 _ (by decide) rfl, hc 4 _ (by decide) rfl, hc 5 _ (by decide) rfl⟩, hs p (List.mem_of_getElem? hp)⟩
/-- facts that are handed in, in a block of their own -/
structure MoreAt (W : World) (g : Nat) (ps : List (FactP × Value)) : Prop where
  lt : g < W.heap.size
  at_ : ∀ (i : Nat) (u : Value), (ps.flatMap cellsM)[i]? = some u → W.cell? ⟨g, i, none⟩ = some u
  sv : ∀ p ∈ ps, SVa W p.2 p.1.l
theorem MoreAt.next {W W' : World} {g : Nat} {ps : List (FactP × Value)} (h : MoreAt W g ps) (hb : Below W.heap.size W W') : MoreAt W' g ps :=
  ⟨Nat.lt_of_lt_of_le h.lt hb.size, fun i u hu => (hb.cell (p := ⟨g, i, none⟩) h.lt).trans (h.at_ i u hu), fun p hp => (h.sv p hp).next hb⟩
theorem infoFm : (Try.prog.info? 30).map (fun i => (i.zero, i.size, i.bytes)) = some (some (.agg #[.int .i64 0, .int .i64 0, .int .i64 0, .int .i64 0, .string ⟨#[]⟩, .slice none 0 0]), 6, 72) := by kernel_rfl
theorem cellsM_one (ps : List (FactP × Value)) {W : World} (h : ∀ p ∈ ps, SVa W p.2 p.1.l) : ∀ u ∈ ps.flatMap cellsM, u.oneCell' = true := by
  intro u hu
  obtain ⟨p, hp, hq⟩ := List.mem_flatMap.1 hu
  obtain ⟨A, c, e, _⟩ := h p hp
  simp only [cellsM, List.mem_cons, List.not_mem_nil, or_false] at hq
  rcases hq with rfl | rfl | rfl | rfl | rfl | rfl
  all_goals first | rfl | (rw [e]; rfl)
set_option maxRecDepth 100000 in
set_option maxHeartbeats 1000000 in
theorem number_any (n : Int) (w : World) : Calls Try.prog 7 #[.int .i64 n] w fun e w' => e = .returned (.agg #[.int .i64 1, .int .i64 n, .string ⟨#[]⟩]) ∧ Below w.heap.size w w' := by
  go_enter Try.func7, Try.ntmps7
  go_wp2
  refine bodyPost_ret (v := .agg #[.int .i64 1, .int .i64 n, .string ⟨#[]⟩]) ?_ rfl ⟨rfl, (Below.refl _ _).alloc (Nat.le_refl _) _⟩
  rw [results_cell_one rfl]
  go_simp
set_option maxRecDepth 100000 in
set_option maxHeartbeats 1000000 in
theorem factB_any (e a k m : Int) (s : ByteArray) (w : World) :
    Calls Try.prog 6 #[.int .i64 e, .int .i64 a, .agg #[.int .i64 k, .int .i64 m, .string s]] w fun r w' => (∃ g, r = .returned (.agg #[.int .i64 e, .int .i64 a, .int .i64 k, .int .i64 m, .string s, .slice (some ⟨g, 0, none⟩) 1 1]) ∧ SpBx w' g (minT, maxT) ∧ w.heap.size ≤ g) ∧ Below w.heap.size w w' := by
  go_enter Try.func6, Try.ntmps6
  go_wp2
  have hs : SpBx (((w.alloc (.cells #[.int .i64 k, .int .i64 m, .string s] 27)).alloc (.cells #[.int .i64 e, .int .i64 a, .int .i64 k, .int .i64 m, .string s, .slice (some ⟨w.heap.size + 1 + 1, 0, none⟩) 1 1] 30)).alloc (.cells #[.int .i64 (-9223372036854775808), .int .i64 9223372036854775807] 34)) (w.heap.size + 1 + 1) (minT, maxT) := by
    have hh := heap_alloc_new ((w.alloc (.cells #[.int .i64 k, .int .i64 m, .string s] 27)).alloc (.cells #[.int .i64 e, .int .i64 a, .int .i64 k, .int .i64 m, .string s, .slice (some ⟨w.heap.size + 1 + 1, 0, none⟩) 1 1] 30)) (.cells #[.int .i64 (-9223372036854775808), .int .i64 9223372036854775807] 34)
    rw [World.size_alloc, World.size_alloc] at hh
    exact hh
  refine bodyPost_ret (v := .agg #[.int .i64 e, .int .i64 a, .int .i64 k, .int .i64 m, .string s, .slice (some ⟨w.heap.size + 1 + 1, 0, none⟩) 1 1]) ?_ rfl ⟨⟨w.heap.size + 1 + 1, rfl, hs, by omega⟩, (((Below.refl _ _).alloc (Nat.le_refl _) _).alloc (by simp) _).alloc (by simp; omega) _⟩
  clear hs
  rw [results_cell_one rfl]
  go_simp
theorem FcBx.set_ne {W : World} {b c j : Nat} {f : FactP} {sv u : Value} (h : FcBx W b f sv) (hn : b ≠ c) : FcBx (W.setCell ⟨c, j, none⟩ u) b f sv := (Below.heap_setCell W ⟨c, j, none⟩ u b hn).trans h
theorem SpBx.set_ne {W : World} {b c j : Nat} {s : Sp} {u : Value} (h : SpBx W b s) (hn : b ≠ c) : SpBx (W.setCell ⟨c, j, none⟩ u) b s := (Below.heap_setCell W ⟨c, j, none⟩ u b hn).trans h
set_option maxRecDepth 100000 in
set_option maxHeartbeats 4000000 in
theorem fewM_any (g : Nat) (ps : List (FactP × Value)) (w : World) (h : MoreAt w g ps) (hl : ps.length ≤ 10) (h0 : 0 < ps.length) :
    Calls Try.prog 5 #[.slice (some ⟨g, 0, none⟩) ps.length ps.length] w fun r w' => (∃ A c, r = .returned (.slice A (fewF ++ ps.map (·.1)).length c) ∧ FVa w' (.slice A (fewF ++ ps.map (·.1)).length c) (fewF ++ ps.map (·.1))) ∧ Below w.heap.size w w' := by
  obtain ⟨i0, hi, hz0, hz1, hz2⟩ := info_parts infoFm
  have HM := Lib.hid h
  have HL : Hid (ps.length ≤ 10 ∧ 0 < ps.length) := ⟨hl, h0⟩
  clear h hl h0
  go_enter Try.func5, Try.ntmps5
  go_wp2_with fail
  refine (fact_any 10 1 7 0 nmU w).mono ?_
  rintro r w1 ⟨⟨g1, rfl, hs1⟩, hb1⟩
  have HS1 := Lib.hid hs1
  have HB1 := Lib.hid hb1
  clear hs1 hb1
  go_wp2_with fail
  refine (fact_any 10 2 1 1 ⟨#[]⟩ w1).mono ?_
  rintro r w2 ⟨⟨g2, rfl, hs2⟩, hb2⟩
  obtain ⟨w3, hw3⟩ : ∃ X, w2.alloc (.cells #[.int .i64 10, .int .i64 1, .int .i64 7, .int .i64 0, .string nmU, .slice (some ⟨g1, 0, none⟩) 1 1, .int .i64 10, .int .i64 2, .int .i64 1, .int .i64 1, .string ⟨#[]⟩, .slice (some ⟨g2, 0, none⟩) 1 1] 30) = X := ⟨_, rfl⟩
  have hal : Below w2.heap.size w2 w3 := by rw [← hw3]; exact (Below.refl _ _).alloc (Nat.le_refl _) _
  have hh : w3.heap[w2.heap.size]? = some (.cells #[.int .i64 10, .int .i64 1, .int .i64 7, .int .i64 0, .string nmU, .slice (some ⟨g1, 0, none⟩) 1 1, .int .i64 10, .int .i64 2, .int .i64 1, .int .i64 1, .string ⟨#[]⟩, .slice (some ⟨g2, 0, none⟩) 1 1] 30 (0, 0)) := by rw [← hw3]; exact heap_alloc_new w2 _
  have HB2 := Lib.hid (HB1.out.trans (hb2.mono HB1.out.size))
  have HB3 := Lib.hid (HB2.out.trans (hal.mono HB2.out.size))
  have HS1b := Lib.hid ((HS1.out.next hb2 (Nat.le_refl _)).more hb2.size)
  have HS2b := Lib.hid hs2
  have HM2 := Lib.hid (HM.out.next HB2.out)
  have HAL := Lib.hid hal
  have HM3 := Lib.hid (HM.out.next HB3.out)
  obtain ⟨q2, hq2⟩ : ∃ q : List (FactP × Value), [(⟨10, 1, 7, 0, nmU, allS⟩, .slice (some ⟨g1, 0, none⟩) 1 1), (⟨10, 2, 1, 1, ⟨#[]⟩, allS⟩, .slice (some ⟨g2, 0, none⟩) 1 1)] = q := ⟨_, rfl⟩
  have HQL : Hid (q2.length = 2) := by rw [← hq2]; rfl
  have HQM : Hid (q2.map (·.1) = fewF) := by show _ = _; rw [← hq2]; rfl
  have hm1 : (1 : Nat) ≤ maxLen := by decide
  have HQS : Hid (∀ p ∈ q2, SVa w2 p.2 p.1.l) := by
    rw [← hq2]
    intro p hp
    simp only [List.mem_cons, List.not_mem_nil, or_false] at hp
    rcases hp with rfl | rfl
    · exact ⟨_, 1, rfl, HS1b.out, Nat.le_refl _, hm1⟩
    · exact ⟨_, 1, rfl, HS2b.out, Nat.le_refl _, hm1⟩
  have HOW : Hid (w3.ownsRow w.heap.size 30 6 (.slice (some ⟨w2.heap.size, 0, none⟩) 2 2) 2 (q2.flatMap cellsM)) := by
    rw [← hq2]
    exact ⟨rfl, .inr ⟨w2.heap.size, 2, _, rfl, HB2.out.size, hh, Nat.le_refl _, by decide, rfl, rfl⟩⟩
  have HNL : Hid ((ps.flatMap cellsM).length = ps.length * 6) := flatG_len (enc := cellsM) (k := 6) (fun _ => rfl) ps
  have HC1 : Hid (∀ (j : Nat) (u : Value), (ps.flatMap cellsM)[j]? = some u → w3.cell? ((⟨g, 0, none⟩ : Addr).add j) = some u) := fun j u hu => by rw [addM, Nat.zero_add]; exact HM3.out.at_ j u hu
  have HONE := Lib.hid (cellsM_one ps HM3.out.sv)
  have HN1 : Hid (2 + ps.length ≤ maxLen) := by show _ ≤ _; have := HL.out; have : 100 ≤ maxLen := (by decide); omega
  have HN2 : Hid ((2 + ps.length) * 72 ≤ 140737488355328) := by show _ ≤ _; have := HL.out; omega
  have HP0 := HL.out.2
  clear hh hs2 hb2 hal hq2 HS1
  go_wp2_with (at_builtin; (try rw [hw3]); refine wpList_append_own _ rfl _ _ 24 rfl w.heap.size 30 i0 (.agg #[.int .i64 0, .int .i64 0, .int .i64 0, .int .i64 0, .string ⟨#[]⟩, .slice none 0 0]) 6 72 Try.underlying24 hi hz0 hz1 hz2 rfl (by decide) _ 2 (q2.flatMap cellsM) rfl HOW.out ⟨g, 0, none⟩ ps.length ps.length (ps.flatMap cellsM) rfl HNL.out HC1.out HONE.out HN1.out HN2.out HB3.out.size ?_; intro v4 w4 hown hgrow _; have HO4 := Lib.hid hown; have HB4 := Lib.hid (HB3.out.grown hgrow HB3.out.size (fun k hk => (World.ownsRow.lt HOW.out k hk).1)); have HG := Lib.hid hgrow; clear hown hgrow)
  have HK4 : Hid (Below w2.heap.size w2 w4) := HAL.out.grown HG.out HAL.out.size (fun k hk => by cases hk; exact Nat.le_refl _)
  have hpl : (q2 ++ ps).length = 2 + ps.length := by rw [List.length_append, HQL.out]
  have hsv : ∀ p ∈ q2 ++ ps, SVa w4 p.2 p.1.l := fun p hp => by
    rcases List.mem_append.1 hp with hp | hp
    · exact (HQS.out p hp).next HK4.out
    · exact (HM2.out.sv p hp).next HK4.out
  obtain ⟨A, c, hv, hf⟩ := fva_row (ps := q2 ++ ps) (by rw [hpl, List.flatMap_append]; exact HO4.out) hsv
  rw [List.map_append, HQM.out] at hv hf
  subst hv
  go_ret
  exact ⟨⟨A, c, rfl, hf⟩, HB4.out⟩
end Go.Proofs.Ytlmihlepaoifiaa
