import Derived.Shelf.RegionOpen
import Derived.RangeFuncNested
import Derived.WalkMore
import Derived.BigQuiet
import Derived.Test.YthdjlaombbeagaaGreatJFInstP
import Derived.Test.YthdjlaombbeagaaGreatJFLastP
import Derived.Test.YthdjlaombbeagaaGreatJDCmp
import Derived.Test.YthdjlaombbeagaaGreatJFDArgs
import Derived.Test.YthdjlaombbeagaaGreatJFSame
/-
  CONTRACT: Fold.
-/
namespace Go.Proofs.YthdjlaombbeagaaGreat
open Go.RowKit Go.Shelf
attribute [local go_sem] Oper.semAt_some turn_in

set_option maxRecDepth 100000 in
set_option maxHeartbeats 2000000 in
theorem fold_in (m : Nat) (hm3 : Hid (9 ≤ m)) (A : Option Addr) (c : Nat) (l : List Dat) (w : World) (hs : SlD w w.heap.size A l) (hl : l.length ≤ 5000) (hS9 : (sortsD 1 l).length ≤ 3000) (hz : ∀ d ∈ l, d.s.size ≤ maxLen) (hk : ∀ d ∈ l, SpOk (spD d)) (hmay : notMay l = false) :
    CallsIn Fence.wide m Tryz.prog 5 #[.slice A l.length c] w (FoldEnd w l) := by
  obtain ⟨iT, hiT, hT0, hT1, hT2⟩ := info_parts infoT
  obtain ⟨iF, hiF, hF0, hF1, hF2⟩ := info_parts infoF
  have hmx : 100001 ≤ maxLen := by decide
  have HS := Lib.hid hs
  have HN := Lib.hid hmay
  have HK := Lib.hid hk
  have HC := Lib.hid (containsFD_any A c l w hs (by omega) hz)
  clear hs hmay hz hk
  refine callsIn_of_wp_marks Tryz.func5 rfl trivial ?_ rfl
  simp only [Tryz.ntmps5, List.size_toArray, List.length_cons, List.length_nil, Nat.reduceAdd, Nat.reduceSub, Array.replicate_succ, Array.replicate_zero, List.push_toArray, List.append_toArray, List.nil_append, List.cons_append]
  gi_wp2_with fail
  refine wpIn_wide.2 ?_
  go_step3
  refine (wpIn_wide (n := m)).1 ?_
  gi_wp2_with fail
  refine ⟨trivial, wide_deep _, ?_⟩
  refine (callsIn_wide.2 HC.out).mono ?_
  rintro e w1 ⟨rfl, hb1⟩
  rw [HN.out]
  have HB1 := Lib.hid hb1
  clear hb1
  gi_wp2_with fail
  refine wpIn_wide.2 ?_
  go_step3
  gi_wp2_with fail
  refine ⟨trivial, wide_deep _, ?_⟩
  obtain ⟨w2, hw2⟩ : ∃ w2, (w1.alloc (.cells #[.slice none 0 0] 26)).alloc (.cells #[.int .i64 0] 27) = w2 := ⟨_, rfl⟩
  have HB2 : Hid (Below w.heap.size w w2) := by show Below _ _ _; rw [← hw2]; exact (HB1.out.alloc HB1.out.size _).alloc (by have := HB1.out.size; simp; omega) _
  have HF2 : Hid (Boxed w2 w1.heap.size 26 (.slice none 0 0)) := by show Boxed _ _ _ _; rw [← hw2]; exact (Boxed.new _ _ _).alloc _
  have HE2 : Hid (Boxed w2 (w1.heap.size + 1) 27 (.int .i64 0)) := by
    show Boxed _ _ _ _
    rw [← hw2]
    have := Boxed.new (w1.alloc (.cells #[.slice none 0 0] 26)) 27 (.int .i64 0)
    rwa [World.size_alloc] at this
  have hz2 : w2.heap.size = w1.heap.size + 2 := by rw [← hw2]; simp
  rw [hw2]
  clear hw2
  refine (callsIn_wide.2 (sortedD_cap 1 A c l w2 ((HS.out.next HB2.out (Nat.le_refl _)).more HB2.out.size) (by omega))).mono ?_
  rintro e w3 ⟨A', c', rfl, hs3, hb3, hlc3, hcm3⟩
  have HS3 := Lib.hid hs3
  have HB3 := Lib.hid hb3
  clear hs3 hb3
  gi_wp2_with fail
  refine ⟨trivial, wide_deep _, ?_⟩
  refine (callsIn_wide.2 (runsT_any _ _ _ _)).mono ?_
  rintro e w4 ⟨rfl, rfl⟩
  gi_wp2_with fail
  obtain ⟨S, hS⟩ : ∃ S, sortsD 1 l = S := ⟨_, rfl⟩
  rw [hS] at hlc3 ⊢
  have HSL := Lib.hid hS
  have HS3 : Hid (SlD w3 w3.heap.size A' S) := by show SlD _ _ _ _; rw [← hS]; exact HS3.out
  have hSl : S.length ≤ 3000 := by rw [← hS]; exact hS9
  have HSM : Hid (∀ d ∈ S, mayD d = true ∧ SpOk (spD d)) := fun d hd => by
    rw [← hS] at hd
    exact ⟨by
      have h := HN.out
      unfold notMay at h
      rw [List.any_eq_false] at h
      simpa using h d (sorts_mem hd), HK.out d (sorts_mem hd)⟩
  clear hS
  obtain ⟨W4, hW4⟩ : ∃ W4, boxRT w3 A' S.length c' = W4 := ⟨_, rfl⟩
  have hz4 : W4.heap.size = w3.heap.size + 2 := by rw [← hW4]; simp [boxRT]
  have HB34 : Hid (Below w3.heap.size w3 W4) := by show Below _ _ _; rw [← hW4]; exact ((Below.refl _ _).alloc (Nat.le_refl _) _).alloc (by simp) _
  have hb23 := HB3.out.size
  have hbw := HB1.out.size
  have hBw : Below w.heap.size w W4 := (HB2.out.trans (HB3.out.mono HB2.out.size)).trans (HB34.out.mono (by omega))
  have HF4 : Hid (Boxed W4 w1.heap.size 26 (.slice none 0 0)) := ((HB3.out.trans (HB34.out.mono hb23)).block _ (by omega)).trans HF2.out
  have HE4 : Hid (Boxed W4 (w1.heap.size + 1) 27 (.int .i64 0)) := ((HB3.out.trans (HB34.out.mono hb23)).block _ (by omega)).trans HE2.out
  have HS4 : Hid (SlD W4 w3.heap.size A' S) := HS3.out.next HB34.out (Nat.le_refl _)
  have hbl : Boxed W4 w3.heap.size 22 (.slice A' S.length c') := by rw [← hW4]; exact (Boxed.new _ _ _).alloc _
  have hbk : Boxed W4 (w3.heap.size + 1) 54 (.func (.func 18) #[] #[]) := by
    rw [← hW4]
    have := Boxed.new (w3.alloc (.cells #[.slice A' S.length c'] 22)) 54 (.func (.func 18) #[] #[])
    rwa [World.size_alloc] at this
  rw [hW4]
  clear hW4
  have hro : Fence.wide.round = none := rfl
  have hne4 := slD_box HS4.out HF4.out
  have HNE := Lib.hid hne4
  refine wpIn_rangeFunc_ownH hro (by have := hm3.out; omega) (gf := 36) (lb := #[.pointer (some ⟨w3.heap.size, 0, none⟩), .pointer (some ⟨w3.heap.size + 1, 0, none⟩)]) rfl trivial (enters_of Tryz.func36 (by kernel_rfl) rfl)
    (runT_stops (m - 1) w3.heap.size w3.heap.size (w3.heap.size + 1) A' c' S W4 (by omega) hlc3 hcm3 (by omega) HS4.out hbl hbk)
    (fun h k => h.trans k) (fun W lp o o' hl _ _ _ => kpR_put (M := W4.heap.size) (by omega) (by omega) W lp o' hl) (Below.refl _ _) (fun _ => rfl)
    (FMid w W4 W4.heap.size w1.heap.size S) (FStop w w1.heap.size (w1.heap.size + 1) S) (fMid_own _ _ _ _ _ (by omega) (by omega)) (fun cd => fStop_own _ _ _ _ _ (by omega) (by omega) (by omega) cd)
    ⟨Nat.le_refl _, hBw, Kq.refl _ _ _, ⟨_, [], HF4.out, ownF_nil _ _, foldsTo_nil, (fun _ h => by cases h)⟩, (fun _ h => by cases h)⟩
    (fun x a' W => ∃ g, W4.heap.size ≤ g ∧ KeyAt W g (headD (runsL triD S)[x.val]) ∧ a' = { tmps := #[.slice A l.length c, undef, .slice none 0 0, .int .i64 0, .pointer (some ⟨w1.heap.size, 0, none⟩), .pointer (some ⟨w1.heap.size + 1, 0, none⟩), .pointer (some ⟨g, 0, none⟩), .slice (stR A' c' ((runsL triD S).take x.val)).1 (runsL triD S)[x.val].length (stR A' c' ((runsL triD S).take x.val)).2, undef, undef, undef, undef, undef, undef, .slice A l.length c, .bool false, .slice A l.length c, .slice A' S.length c', .func (.func 36) #[] #[.pointer (some ⟨w3.heap.size, 0, none⟩), .pointer (some ⟨w3.heap.size + 1, 0, none⟩)], triV (headD (runsL triD S)[x.val]), .slice (stR A' c' ((runsL triD S).take x.val)).1 (runsL triD S)[x.val].length (stR A' c' ((runsL triD S).take x.val)).2, undef, undef, undef, undef, undef, undef, undef, undef, undef, undef, undef, undef, undef, undef, undef, undef, undef, undef, undef, undef, undef, undef, undef, undef, undef, undef, undef, undef, undef, undef, undef, undef, undef, undef], defers := [] })
    (fun x a' _ X Y row ⟨g, hg1, hg2, e⟩ hgr hr => ⟨g, hg1, (hgr.block g hg2.lt (fun e => by obtain ⟨o, ho, hn⟩ := (hr g e.symm).2; unfold KeyAt at hg2; rw [hg2] at ho; cases ho; cases hn)).trans hg2, e⟩) ?assign ?body ?done ?stop
  case assign =>
    rintro lp pre x W K hM hK
    have hMz := hM.1
    have HK9 := Lib.hid @hK
    have HM := Lib.hid hM
    clear hK hM
    obtain ⟨d, hd⟩ : ∃ d, headD (runsL triD S)[x.val] = d := ⟨_, rfl⟩
    obtain ⟨q, hq⟩ : ∃ q, (runsL triD S)[x.val].length = q := ⟨_, rfl⟩
    obtain ⟨st, hst⟩ : ∃ st, stR A' c' ((runsL triD S).take x.val) = st := ⟨_, rfl⟩
    unfold encT triV
    rw [hd, hq, hst]
    gi_wp2
    rw [← hq, ← hst]
    rw [← hd]
    exact HK9.out _ _ (keepsFrom_below ((Below.refl _ W).alloc (Nat.le_refl _) _)) (kpR_below ((Below.refl _ W).alloc (Nat.le_refl _) _) (by omega)) ((fMid_own w W4 W4.heap.size w1.heap.size S (by omega) (by omega)).alloc _ HM.out) ⟨W.heap.size, hMz, heap_alloc_new W _, rfl⟩
  case body =>
    rintro lp pre x a' W hwl ⟨rec, hrec⟩ hM ⟨g, hgz, hg, rfl⟩ hlt
    have HSW : Hid (SlD W w3.heap.size A' S) := (hM.2.2.1.kpR (Bk := w3.heap.size) (t := 22) (fv := .slice A' S.length c') HNE.out (by omega) (by omega) (by omega)).1 HS4.out
    have hxm : (runsL triD S)[x.val] ∈ runsL triD S := List.getElem_mem _
    obtain ⟨j1, j2, j3, j4⟩ := run_sl triD HSW.out hlc3 x.val x.isLt
    obtain ⟨r, hr⟩ : ∃ r, (runsL triD S)[x.val] = r := ⟨_, rfl⟩
    obtain ⟨As, cs, hst⟩ : ∃ As cs, stR A' c' ((runsL triD S).take x.val) = (As, cs) := ⟨_, _, rfl⟩
    rw [hr] at hxm j1 j2 j4 hg
    rw [hst] at j1 j2 j3
    have HJ1 := Lib.hid j1
    have HXM := Lib.hid hxm
    have HRE := Lib.hid hr
    have HM := Lib.hid hM
    have HG := Lib.hid hg
    have HRC := Lib.hid hrec
    have hMz := hM.1
    have HBF : Hid (∃ v, Boxed W w1.heap.size 26 v) := by obtain ⟨v, _, h, _⟩ := hM.2.2.2.1; exact ⟨v, h⟩
    have HBE : Hid (Boxed W (w1.heap.size + 1) 27 (.int .i64 0)) := (hM.2.2.1.2 _ (by omega) (by omega)).trans HE4.out
    have HRL : Hid (∀ d ∈ r, d ∈ S) := fun d hd => run_mem triD hxm hd
    rw [hr, hst]
    clear hM hg hxm j1 hr hst hrec
    gi_wp2_with fail
    refine ⟨trivial, wide_deep _, (CallsIn.inRound lp (callsIn_wide.2 (runsI_any _ _ _ _))).mono ?_⟩
    rintro e w5 ⟨rfl, rfl⟩
    gi_wp2_with fail
    obtain ⟨W5, hW5⟩ : ∃ W5, boxRI (W.alloc (.cells #[.slice none 0 0] 55)) As r.length cs = W5 := ⟨_, rfl⟩
    have hz5 : W5.heap.size = W.heap.size + 3 := by rw [← hW5]; simp [boxRI]
    have HB5 : Hid (Below W.heap.size W W5) := by show Below _ _ _; rw [← hW5]; exact (((Below.refl _ _).alloc (Nat.le_refl _) _).alloc (by simp) _).alloc (by simp; omega) _
    have hb8 : Boxed W5 W.heap.size 55 (.slice none 0 0) := by rw [← hW5]; exact ((Boxed.new _ _ _).alloc _).alloc _
    have hbl : Boxed W5 (W.heap.size + 1) 22 (.slice As r.length cs) := by
      rw [← hW5]
      have := Boxed.new (W.alloc (.cells #[.slice none 0 0] 55)) 22 (.slice As r.length cs)
      rw [World.size_alloc] at this
      exact this.alloc _
    have hbk : Boxed W5 (W.heap.size + 1 + 1) 59 (.func (.func 20) #[] #[]) := by
      rw [← hW5]
      have := Boxed.new ((W.alloc (.cells #[.slice none 0 0] 55)).alloc (.cells #[.slice As r.length cs] 22)) 59 (.func (.func 20) #[] #[])
      rwa [World.size_alloc, World.size_alloc] at this
    have hrec5 : W5.heap[lp]? = some (.loop rec) := (HB5.out.block lp (Array.getElem?_eq_some_iff.1 HRC.out).1).trans HRC.out
    rw [hW5]
    clear hW5
    refine wpIn_rangeFunc_ownN (l₀ := lp) (r₀ := rec) rfl hrec5 (by have := hm3.out; omega) (gf := 42) (lb := #[.pointer (some ⟨W.heap.size + 1, 0, none⟩), .pointer (some ⟨W.heap.size + 1 + 1, 0, none⟩)]) rfl trivial (enters_of Tryz.func42 (by kernel_rfl) rfl)
      (SeqStopsK.inRound lp (runI_stops (m - 1 - 1 - 1) w3.heap.size (W.heap.size + 1) (W.heap.size + 1 + 1) As cs r W5 (by omega) j2 (by omega) (by omega) (HJ1.out.next HB5.out (by omega)) hbl hbk))
      (fun h k => h.trans k) (fun W lp o o' hl _ _ _ => kpR_put (M := W5.heap.size) (by omega) (by omega) W lp o' hl) (Below.refl _ _) (fun _ => rfl)
      (TMid W W5.heap.size W.heap.size r) (TStop w W W4.heap.size w1.heap.size (w1.heap.size + 1) r) (tMid_own _ _ _ _ (by omega) (by omega)) (fun cd => tStop_own _ _ _ _ _ _ _ (by omega) (by omega) (by omega) (by omega) cd)
      ⟨HB5.out, ⟨_, [], hb8, ownT_nil _ _, rfl, fun i d x hd => by simp at hd⟩, (fun _ h => by cases h), Nat.le_refl _⟩
      (fun y a'' _ => a'' = { tmps := #[.slice A l.length c, undef, .slice none 0 0, .int .i64 0, .pointer (some ⟨w1.heap.size, 0, none⟩), .pointer (some ⟨w1.heap.size + 1, 0, none⟩), .pointer (some ⟨g, 0, none⟩), .slice As r.length cs, .pointer (some ⟨W.heap.size, 0, none⟩), undef, .slice (stR As cs ((runsL (fun d : Dat => d.t) r).take y.val)).1 (runsL (fun d : Dat => d.t) r)[y.val].length (stR As cs ((runsL (fun d : Dat => d.t) r).take y.val)).2, undef, undef, undef, .slice A l.length c, .bool false, .slice A l.length c, .slice A' S.length c', .func (.func 36) #[] #[.pointer (some ⟨w3.heap.size, 0, none⟩), .pointer (some ⟨w3.heap.size + 1, 0, none⟩)], triV (headD r), .slice As r.length cs, .slice As r.length cs, .func (.func 42) #[] #[.pointer (some ⟨W.heap.size + 1, 0, none⟩), .pointer (some ⟨W.heap.size + 1 + 1, 0, none⟩)], .int .i64 (headD (runsL (fun d : Dat => d.t) r)[y.val]).t, .slice (stR As cs ((runsL (fun d : Dat => d.t) r).take y.val)).1 (runsL (fun d : Dat => d.t) r)[y.val].length (stR As cs ((runsL (fun d : Dat => d.t) r).take y.val)).2, undef, undef, undef, undef, undef, undef, undef, undef, undef, undef, undef, undef, undef, undef, undef, undef, undef, undef, undef, undef, undef, undef, undef, undef, undef, undef, undef, undef, undef, undef], defers := [] })
      (fun _ _ _ _ _ _ hs _ _ => hs) ?assign2 ?body2 ?done2 ?stop2
    case assign2 =>
      rintro lp2 pre2 y W' K hT hK
      have HK9 := Lib.hid @hK
      have HT := Lib.hid hT
      clear hK hT
      obtain ⟨d, hd⟩ : ∃ d, headD (runsL (fun d : Dat => d.t) r)[y.val] = d := ⟨_, rfl⟩
      obtain ⟨q, hq⟩ : ∃ q, (runsL (fun d : Dat => d.t) r)[y.val].length = q := ⟨_, rfl⟩
      obtain ⟨st, hst⟩ : ∃ st, stR As cs ((runsL (fun d : Dat => d.t) r).take y.val) = st := ⟨_, rfl⟩
      unfold encI
      rw [hd, hq, hst]
      gi_wp2
      rw [← hq, ← hst]
      rw [← hd]
      exact HK9.out _ _ (KeepsFrom.refl _ _) ⟨fun x => x, fun x => x, Nat.le_refl _⟩ HT.out rfl
    case body2 =>
      rintro lp2 pre2 y a'' W' hwl2 hrec2 hT rfl hlt2
      obtain ⟨h1, ⟨v8, ps, h2, h3, h4, h5⟩, h6, h7⟩ := hT
      have hym : (runsL (fun d : Dat => d.t) r)[y.val] ∈ runsL (fun d : Dat => d.t) r := List.getElem_mem _
      obtain ⟨k1, k2, k3, k4⟩ := run_sl (fun d : Dat => d.t) (HJ1.out.next h1 (by omega)) j2 y.val y.isLt
      obtain ⟨o, ho⟩ : ∃ o, (runsL (fun d : Dat => d.t) r)[y.val] = o := ⟨_, rfl⟩
      obtain ⟨A2, c2, hst2⟩ : ∃ A2 c2, stR As cs ((runsL (fun d : Dat => d.t) r).take y.val) = (A2, c2) := ⟨_, _, rfl⟩
      rw [ho] at hym k1 k2 k4
      rw [hst2] at k1 k2 k3
      have hom : ∀ d ∈ o, mayD d = true ∧ SpOk (spD d) := fun d hd => HSM.out d (HRL.out d (run_mem _ hym hd))
      have HTO := Lib.hid (turnOf_any A2 c2 o W' (k1.more (by omega)) (by omega) (fun d hd => mayD_live (hom d hd).1) (fun d hd => (hom d hd).2))
      have HOE := Lib.hid ho
      have H1 := Lib.hid h1
      have H2 := Lib.hid h2
      have H3 := Lib.hid h3
      have H4 := Lib.hid h4
      have H5 := Lib.hid h5
      have H6 := Lib.hid h6
      have hpl := List.length_pos_iff.2 (run_ne triD HXM.out)
      have hrf := runs_few (fun d : Dat => d.t) r
      rw [ho, hst2]
      clear h1 h2 h3 h4 h5 h6 hym k1 ho hst2 hom
      gi_wp2_with fail
      refine ⟨trivial, wide_deep _, (CallsIn.inRound lp2 (CallsIn.inRound lp (callsIn_wide.2 HTO.out))).mono ?_⟩
      rintro e w6 ⟨⟨xt, vi, vo, ok, rfl, ht, hti, hto, hok, hoi, hoo⟩, hb6⟩
      have HB6 := Lib.hid (H1.out.trans (hb6.mono H1.out.size))
      have HB66 := Lib.hid hb6
      have HX := Lib.hid (And.intro ht (And.intro hti hto))
      have HVI := Lib.hid (ownS_sv hoi)
      have HVO := Lib.hid (ownS_sv hoo)
      obtain ⟨Ai, ci, rfl, _⟩ := hoi.sls
      obtain ⟨Ao, co, rfl, _⟩ := hoo.sls
      have hz6 := hb6.size
      obtain ⟨vF, hF⟩ := HBF.out
      obtain ⟨o9, ho9⟩ : ∃ o9, Obj.cells #[Value.slice Ai xt.i.length ci, Value.slice Ao xt.o.length co] 62 = o9 := ⟨_, rfl⟩
      have HO9 := Lib.hid ho9
      cases ok with
      | false =>
        have hcl : Clash o := Classical.byContradiction fun h => by have := hok.2 h; cases this
        have HCL := Lib.hid hcl
        have f0 : Boxed (w6.alloc o9) w1.heap.size 26 vF := Boxed.alloc ((HB6.out.block _ (by omega)).trans hF) _
        have f1 : Boxed (w6.alloc o9) (w1.heap.size + 1) 27 (.int .i64 0) := Boxed.alloc ((HB6.out.block _ (by omega)).trans HBE.out) _
        have a0 := f0.frozen
        have a1 := f1.frozen
        have a2 := f0.cell
        have a3 := f1.cell
        have F0 := Lib.hid f0
        have F1 := Lib.hid f1
        rw [← HO9.out] at a0 a1 a2 a3
        clear ho9 ht hti hto hok hoi hoo hb6 hF hcl f0 f1
        gi_wp2
        rw [HO9.out]
        have hk9 : ∀ B, KeepsFrom B W' (((w6.alloc o9).setCell ⟨w1.heap.size, 0, none⟩ (.slice none 0 0)).setCell ⟨w1.heap.size + 1, 0, none⟩ (.int .i64 60)) := fun B => ((keepsFrom_below (HB66.out.alloc hz6 o9)).trans (keepsFrom_set (p := ⟨w1.heap.size, 0, none⟩) F0.out _)).trans (keepsFrom_set (p := ⟨w1.heap.size + 1, 0, none⟩) (F1.out.other (by omega) _) _)
        refine ⟨hk9 _, rfl, ⟨y, by simp, by rw [HOE.out]; exact HCL.out⟩, (F0.out.set _).other (by omega) _, (F1.out.other (by omega) _).set _, (keepsFrom_below H1.out).trans (hk9 _), ?_⟩
        exact (((HM.out.2.1.trans (HB6.out.mono HM.out.2.1.size)).alloc (by have := HB6.out.size; have := HM.out.2.1.size; omega) o9).setCell (p := ⟨w1.heap.size, 0, none⟩) hbw _).setCell (p := ⟨w1.heap.size + 1, 0, none⟩) (by show _ ≤ _ + 1; omega) _
      | true =>
        clear HO9
        subst ho9
        have hcl : ¬ Clash o := hok.1 rfl
        have HCL := Lib.hid hcl
        have b0 : Boxed (w6.alloc (.cells #[Value.slice Ai xt.i.length ci, Value.slice Ao xt.o.length co] 62)) W.heap.size 55 v8 := Boxed.alloc ((HB66.out.block _ (by omega)).trans H2.out) _
        have hown : OwnT (w6.alloc (.cells #[Value.slice Ai xt.i.length ci, Value.slice Ao xt.o.length co] 62)) W.heap.size v8 ps := (H3.out.next HB66.out).next ((Below.refl _ w6).alloc (Nat.le_refl _) _)
        have c0 := b0.cell
        have B0 := Lib.hid b0
        have HOW := Lib.hid hown
        clear ht hti hto hok hoi hoo hb6 hF hcl b0 hown
        have hun : ∀ u ∈ [Value.slice Ai xt.i.length ci, Value.slice Ao xt.o.length co], u.oneCell' = true := by simp [Value.oneCell']
        gi_wp2_with (gi_at_builtin; go_loud (refine wpListIn_append_own _ rfl _ _ 55 rfl W.heap.size 62 iT (.agg #[.slice none 0 0, .slice none 0 0]) 2 48 Tryz.underlying55 hiT hT0 hT1 hT2 rfl (by decide) _ _ _ rfl (World.ownsRow.alloc HOW.out.1 _) ⟨w6.heap.size + 1, 0, none⟩ 1 1 [Value.slice Ai xt.i.length ci, Value.slice Ao xt.o.length co] rfl rfl (fun j u h => by have q := cell_lit (w6.alloc (.cells #[Value.slice Ai xt.i.length ci, Value.slice Ao xt.o.length co] 62)) #[Value.slice Ai xt.i.length ci, Value.slice Ao xt.o.length co] 62 j u h; rw [World.size_alloc] at q; exact q) hun (by have := H4.out; omega) (by have := H4.out; omega) (by simp; omega) ?_); intro v' w3 hown' hgrow _; have hst9 := ownT_step HOW.out (HVI.out.alloc _) (HVO.out.alloc _) ((B0.out.alloc _).kept hgrow (B0.out.not_row (by decide) HOW.out.1)) hown' hgrow; obtain ⟨g', cap', rfl⟩ := ownsRow_succ hown'; obtain ⟨hv1, hv2, hr2, hk2, hb2⟩ := B0.out.appended (by decide) HOW.out.1 (by simp; omega) (Nat.le_refl _) hown' hgrow; have y0 := hv1.cell; have y1 := hv1.frozen; have HG9 := Lib.hid hgrow; clear hgrow hown' hr2 hun)
        have hb9 : Below W.heap.size W' (w3.setCell ⟨W.heap.size, 0, none⟩ (.slice (some ⟨g', 0, none⟩) (ps.length + 1) cap')) := ((HB66.out.mono (by omega)).alloc (by omega) _).trans hb2
        refine ⟨(keepsFrom_below (HB66.out.alloc hz6 _)).trans (hk2.from _), ⟨fun h => h.next hb9 (by omega), fun hb => ?_, hb9.size⟩, H1.out.trans hb9, ⟨_, _, hv2, hst9, by simp [H4.out], ?_⟩, ?_, by have := hb9.size; omega⟩
        · have hb6b : Boxed (w6.alloc (.cells #[Value.slice Ai xt.i.length ci, Value.slice Ao xt.o.length co] 62)) (W.heap.size + 1 + 1) _ _ := Boxed.alloc ((HB66.out.block _ hb.lt).trans hb) _
          exact ((hb6b.alloc _).kept HG9.out (hb6b.not_row (by decide) HOW.out.1)).other (by omega) _
        · rw [List.map_append, List.map_append]
          exact turns_snoc (by simp [H4.out]) H5.out (by show IsTurn (runsL (fun d : Dat => d.t) r)[y.val] xt ∧ _; rw [HOE.out]; exact HX.out)
        · intro j hj
          rcases List.mem_append.1 hj with hj | hj
          · exact H6.out j hj
          · rw [List.mem_singleton.1 hj, HOE.out]; exact HCL.out
    case done2 =>
      rintro ys W' rfl hT
      obtain ⟨h1, ⟨v8, ps, h2, h3, h4, h5⟩, h6, h7⟩ := hT
      have hN := map_all (runsL (fun d : Dat => d.t) r)
      rw [hN] at h5
      rw [allN_len] at h4
      have hng : ∀ o ∈ runsL (fun d : Dat => d.t) r, ¬ Clash o := fun o ho => by
        obtain ⟨i, hi, rfl⟩ := List.mem_iff_getElem.1 ho
        exact h6 ⟨i, hi⟩ (by unfold allN; exact List.mem_finRange _)
      obtain ⟨A8, c8, rfl, hs8, hlc8, hcm8⟩ := h3.slT
      have b0 := h2.cell
      have hrn : r ≠ [] := run_ne triD HXM.out
      have hpos : 0 < ps.length := by
        rw [h4]
        refine List.length_pos_iff.2 fun h => hrn ?_
        have := runsL_join (fun d : Dat => d.t) _ r (Nat.le_refl _)
        rw [h] at this
        exact this.symm
      have hrf := runs_few (fun d : Dat => d.t) r
      have hto : ∀ x ∈ ps.map (·.1), TurnOk (endsD S) x := fun x hx => by
        obtain ⟨i, hi, rfl⟩ := List.mem_iff_getElem.1 hx
        have hi2 : i < (runsL (fun d : Dat => d.t) r).length := by rw [← h4]; simpa using hi
        obtain ⟨q1, q2, q3⟩ := h5 i _ _ (List.getElem?_eq_getElem hi2) (List.getElem?_eq_getElem hi)
        exact isTurn_ok (fun d hd => HRL.out d (run_mem _ (List.getElem_mem hi2) hd)) q1 q2 q3
      have hj := joined_any (endsD S) (by rw [endsD_len]; omega) _ A8 c8 (ps.map (·.1)) W' (Nat.le_refl _) (by rw [List.length_map]; exact hpos) (by rw [List.length_map]; omega) (by rw [List.length_map]; exact hlc8) hcm8 hs8 hto
      rw [List.length_map] at hj
      have HJ := Lib.hid hj
      have HNG := Lib.hid hng
      have H4 := Lib.hid h4
      have H1 := Lib.hid h1
      have H5 := Lib.hid h5
      clear hj hng h1 h2 h3 h4 h5 h6 hs8 hto hN
      gi_wp2_with fail
      refine ⟨trivial, wide_deep _, (CallsIn.inRound lp (callsIn_wide.2 HJ.out)).mono ?_⟩
      rintro e w7 ⟨⟨z, vi, vo, rfl, hvi, hvo, hj⟩, hb7⟩
      have HHE : Hid (HeldL r z.i) := joins_held hj (by rw [List.length_map]; exact H4.out) (fun i q x hq hx => (H5.out i q x hq hx).1)
      have HB7 := Lib.hid (H1.out.trans (hb7.mono H1.out.size))
      have HVI := Lib.hid hvi
      have HZF : Hid (z.i.length ≤ 3000) := by have h := set_few2 hj.1.i hj.1.ie; rw [endsD_len] at h; show _ ≤ _; omega
      obtain ⟨Ai, ci, rfl, _⟩ := hvi
      obtain ⟨Ao, co, rfl, _⟩ := hvo
      clear hj hb7
      have hz7 := HB7.out.size
      obtain ⟨vF, psF, hbF, hoF, hfF, hpF⟩ := HM.out.2.2.2.1
      have HPF := Lib.hid hpF
      have hsn := foldsTo_run hfF hrn HHE.out
      have HSN := Lib.hid hsn
      have HOF := Lib.hid (hoF.next HB7.out)
      have HBF7 : Hid (Boxed w7 w1.heap.size 26 vF) := (HB7.out.block _ (by omega)).trans hbF
      have hfl := foldsTo_len hfF
      rw [List.length_map, List.length_map] at hfl
      have hrs := runs_few triD S
      have HCL : Hid (∀ j ∈ pre ++ [x], ∀ o ∈ timesL (runsL triD S)[j.val], ¬ Clash o) := fun j hj => by
        rcases List.mem_append.1 hj with hj | hj
        · exact HM.out.2.2.2.2 j hj
        · rw [List.mem_singleton.1 hj, HRE.out]; exact HNG.out
      have HMM : Hid (Below w.heap.size w w7 ∧ Kq W4.heap.size w1.heap.size W4 w7) := ⟨HM.out.2.1.trans (HB7.out.mono HM.out.2.1.size), HM.out.2.2.1.trans (kq_below (HB7.out.mono hMz) hz7)⟩
      clear hbF hoF hfF hpF hsn
      by_cases hzl : z.i = []
      · have hz0 : z.i.length = 0 := by rw [hzl]; rfl
        gi_wp2
        refine ⟨keepsFrom_below HB7.out, kpR_below HB7.out (by omega), by omega, HMM.out.1, HMM.out.2, ⟨vF, psF, HBF7.out, HOF.out, ?_, HPF.out⟩, HCL.out⟩
        have h := HSN.out
        rw [if_pos hzl] at h
        rw [List.map_append]
        show FoldsTo (_ ++ [(runsL triD S)[x.val]]) _
        rw [HRE.out]
        exact h
      · have hgt : (0 : Int) < (z.i.length : Int) := by have := List.length_pos_iff.2 hzl; omega
        have HZ := Lib.hid hzl
        obtain ⟨d, hd⟩ : ∃ d, headD r = d := ⟨_, rfl⟩
        have HD := Lib.hid hd
        have hg7 := HG.out.next (HB7.out)
        rw [hd] at hg7 ⊢
        have k0 := hg7.cell 0
        have k1 := hg7.cell 1
        have k2 := hg7.cell 2
        have k3 := hg7.cell 3
        have k4 := hg7.cell 4
        simp at k0 k1 k2 k3 k4
        have b1 := HBF7.out.cell
        have hun : ∀ u ∈ [Value.int .i64 d.e, .int .i64 d.a, .int .i64 d.k, .int .i64 d.m, .string d.s, .slice Ai z.i.length ci], u.oneCell' = true := by simp [Value.oneCell']
        clear hzl hd hg7
        gi_wp2_with (gi_at_builtin; go_loud (refine wpListIn_append_own _ rfl _ _ 26 rfl W4.heap.size 67 iF (.agg #[.int .i64 0, .int .i64 0, .int .i64 0, .int .i64 0, .string ⟨#[]⟩, .slice none 0 0]) 6 72 Tryz.underlying26 hiF hF0 hF1 hF2 rfl (by decide) _ _ _ rfl (World.ownsRow.alloc HOF.out.1 _) ⟨w7.heap.size, 0, none⟩ 1 1 [Value.int .i64 d.e, .int .i64 d.a, .int .i64 d.k, .int .i64 d.m, .string d.s, .slice Ai z.i.length ci] rfl rfl (fun j u h => cell_lit w7 #[Value.int .i64 d.e, .int .i64 d.a, .int .i64 d.k, .int .i64 d.m, .string d.s, .slice Ai z.i.length ci] 67 j u h) hun (by omega) (by omega) (by simp; omega) ?_); intro v' w8 hown' hgrow _; have hst9 := ownF_step (f := factD d z.i) HOF.out HVI.out (fact_step (B0 := w.heap.size) (v' := v') HBF7.out HOF.out (by omega) (by omega) hbw hgrow).1 hown' hgrow; obtain ⟨g', cap', rfl⟩ := ownsRow_succ hown'; obtain ⟨hv1, hv2, hk2, hq2, hb2⟩ := fact_step (B0 := w.heap.size) (v' := .slice (some ⟨g', 0, none⟩) (psF.length + 1) cap') HBF7.out HOF.out (by omega) (by omega) hbw hgrow; have y0 := hv1.cell; have y1 := hv1.frozen; clear hgrow hown' hun)
        refine ⟨(keepsFrom_below HB7.out).trans (hk2.from _), (kpR_below HB7.out (by omega)).trans (hq2.kpR HNE.out (by omega) (by omega) (by omega)), by have := hq2.1; omega, HMM.out.1.trans hb2, HMM.out.2.trans hq2, ⟨_, _, hv2, hst9, ?_, fun p hp => by rcases List.mem_append.1 hp with hp | hp; (exact HPF.out p hp); (rw [List.mem_singleton.1 hp]; exact HZF.out)⟩, HCL.out⟩
        have h := HSN.out
        rw [if_neg HZ.out, HD.out] at h
        rw [List.map_append, List.map_append]
        show FoldsTo (_ ++ [(runsL triD S)[x.val]]) (_ ++ [factD d z.i])
        rw [HRE.out]
        exact h
    case stop2 =>
      rintro cd pre2 W' hsp ⟨rfl, ⟨j, hj, hc⟩, h2, h3, h4, h5⟩
      have HRE2 : Hid (∃ j ∈ pre ++ [x], ∃ o ∈ timesL (runsL triD S)[j.val], Clash o) := ⟨x, by simp, by rw [HRE.out]; exact ⟨_, List.getElem_mem _, hc⟩⟩
      gi_wp2
      exact ⟨h4, rfl, HRE2.out, h2, h3, h5⟩
  case done =>
    rintro D ys W hD rfl ⟨h1, h2, h3, ⟨v, ps, h4, h5, h6, h8⟩, h7⟩ hK
    have H8 := Lib.hid h8
    have b0 := h4.cell
    have e0 := (Boxed.cell (show Boxed W (w1.heap.size + 1) 27 (.int .i64 0) from (h3.2 _ (by omega) (by omega)).trans HE4.out))
    have H5 : Hid (OwnF W W4.heap.size v ps) := h5
    have HGO : Hid (Goes S) := fun run hrun once ho => by
      obtain ⟨i, hi, rfl⟩ := List.mem_iff_getElem.1 hrun
      exact h7 ⟨i, hi⟩ (by unfold allN; exact List.mem_finRange _) once ho
    have hN := map_all (runsL triD S)
    rw [hN] at h6
    have HFT := Lib.hid h6
    have H2 := Lib.hid h2
    clear h1 h2 h3 h4 h5 h6 h7 h8 hN
    have hfo : Tryz.prog.follows .mixedOrders = true := by kernel_rfl
    gi_wp2_with fail
    refine wpIn_wide.2 ?_
    go_quiet (fail)
    gi_wp2_with fail
    have hKn : (W.drewN nq).heap[D]? = some (.deferred (some [])) := hK
    have HE := (below_dn H2.out nq).trans (belowK_b (w := W4) (n₀ := w.heap.size) hBw.size (W.drewN nq) D _ (.deferred none) hD hKn rfl rfl)
    have hv9 : OwnF (W.drewN nq) W4.heap.size v ps := H5.out.next (below_dn (Below.refl _ W) nq)
    have hv7 := hv9.kept (grownBy_putObj' (W.drewN nq) D (.deferred none)) (fun r e => by cases e; exact ⟨_, hKn, rfl⟩)
    have hv8 := hv7.fv
    refine ⟨by simp, .inl ⟨_, _, rfl, run_takeDeferred hKn, ?_⟩⟩
    exact ⟨_, results_tmp2 rfl _ _ _, ⟨⟨v, 0, rfl, .inl ⟨rfl, by rw [HSL.out]; exact HGO.out, _, by rw [HSL.out]; exact HFT.out, hv8, (fun f hf => by obtain ⟨p, hp, rfl⟩ := List.mem_map.1 hf; exact H8.out p hp), ps, hv7.low hBw.size, rfl⟩⟩, HE⟩⟩
  case stop =>
    rintro D cd pre W hD hsp ⟨rfl, h1, h2, h3, h4⟩ hK
    have b0 := h2.cell
    have e0 := h3.cell
    have HNG : Hid (¬ Goes S) := fun hg => by
      obtain ⟨j, _, o, ho, hc⟩ := h1
      exact hg _ (List.getElem_mem _) o ho hc
    have H4 := Lib.hid h4
    clear h1 h2 h3 h4
    have hfo : Tryz.prog.follows .mixedOrders = true := by kernel_rfl
    gi_wp2_with fail
    refine wpIn_wide.2 ?_
    go_quiet (fail)
    gi_wp2_with fail
    have hKn : (W.drewN nq).heap[D]? = some (.deferred (some [])) := hK
    have HE := (below_dn H4.out nq).trans (belowK_b (w := W4) (n₀ := w.heap.size) hBw.size (W.drewN nq) D _ (.deferred none) hD hKn rfl rfl)
    refine ⟨by simp, .inl ⟨_, _, rfl, run_takeDeferred hKn, ?_⟩⟩
    exact ⟨_, results_tmp2 rfl _ _ _, ⟨⟨_, 60, rfl, .inr ⟨rfl, rfl, by rw [HSL.out]; exact HNG.out⟩⟩, HE⟩⟩
/-- Fold, of datoms that each may be. -/
theorem fold_any (A : Option Addr) (c : Nat) (l : List Dat) (w : World) (hs : SlD w w.heap.size A l) (hl : l.length ≤ 5000) (hS9 : (sortsD 1 l).length ≤ 3000) (hz : ∀ d ∈ l, d.s.size ≤ maxLen) (hk : ∀ d ∈ l, SpOk (spD d)) (hmay : notMay l = false) :
    Calls Tryz.prog 5 #[.slice A l.length c] w (FoldEnd w l) :=
  (callsIn_wide (n := 9)).1 (fold_in 9 (Nat.le_of_ble_eq_true rfl) A c l w hs hl hS9 hz hk hmay)
set_option maxRecDepth 100000 in
set_option maxHeartbeats 1000000 in
/-- Fold, of datoms of which some may not be. -/
theorem fold_bad (m : Nat) (_hm3 : Hid (9 ≤ m)) (A : Option Addr) (c : Nat) (l : List Dat) (w : World) (hs : SlD w w.heap.size A l) (hl : l.length * 80 ≤ 140737488355328) (hz : ∀ d ∈ l, d.s.size ≤ maxLen) (hmay : notMay l = true) :
    CallsIn Fence.wide m Tryz.prog 5 #[.slice A l.length c] w fun e w' => e = .returned (.tuple #[.slice none 0 0, .int .i64 60]) ∧ Below w.heap.size w w' := by
  have HC := Lib.hid (containsFD_any A c l w hs hl hz)
  have HN := Lib.hid hmay
  clear hs hmay hz
  refine callsIn_of_wp_marks Tryz.func5 rfl trivial ?_ rfl
  simp only [Tryz.ntmps5, List.size_toArray, List.length_cons, List.length_nil, Nat.reduceAdd, Nat.reduceSub, Array.replicate_succ, Array.replicate_zero, List.push_toArray, List.append_toArray, List.nil_append, List.cons_append]
  gi_wp2_with fail
  refine wpIn_wide.2 ?_
  go_step3
  refine (wpIn_wide (n := m)).1 ?_
  gi_wp2_with fail
  refine ⟨trivial, wide_deep _, ?_⟩
  refine (callsIn_wide.2 HC.out).mono ?_
  rintro e w1 ⟨rfl, hb1⟩
  rw [HN.out]
  have HB1 := Lib.hid hb1
  clear hb1
  gi_wp2_with fail
  exact ⟨_, results_tmp2 rfl _ _ _, rfl, HB1.out⟩
end Go.Proofs.YthdjlaombbeagaaGreat

/-
  PLAIN FACTS: the chapter's two datoms, folded.
-/
namespace Go.Proofs.YthdjlaombbeagaaGreat

theorem datOk_sp {d : Dat} (h : DatOk d) : SpOk (spD d) := by
  have h1 := h.fr
  have h2 := h.til
  unfold i64B at h1 h2
  unfold SpOk spD minT maxT
  simp only
  omega
end Go.Proofs.YthdjlaombbeagaaGreat

/-
  CONTRACTS: the document's Same of two lists of datoms that are equal; Great; arguments.
-/
namespace Go.Proofs.YthdjlaombbeagaaGreat
open Go.ChangeShapes Go.WideShapes Go.ChangeAt Go.RowKit Go.Joins Go.Deep

set_option maxRecDepth 100000 in
set_option maxHeartbeats 2000000 in
theorem sameD_any (A A' : Option Addr) (c c' : Nat) (l : List Dat) (w : World) (B : Nat) (hs : SlD w B A l) (hs' : SlD w B A' l) (hl : l.length ≤ 2000000000000) :
    Calls Tryz.prog 12 #[.slice A l.length c, .slice A' l.length c'] w fun e w' => e = .returned (.bool true) ∧ ∃ n, w' = w.drewN n := by
  go_enter Tryz.func12, Tryz.ntmps12
  go_wp2
  go_loopw [5] (fun i wr => ∃ j n : Nat, j ≤ l.length ∧ i = .int .i64 j ∧ wr = w.drewN n) (fun i _ => l.length - (intOf i).toNat)
  case atStart => exact ⟨0, 0, by omega, rfl, rfl⟩
  case round =>
    obtain ⟨j, n, hj, rfl, rfl⟩ := hrel
    by_cases h1 : j < l.length
    · have hji : (j : Int) < (l.length : Int) := by omega
      obtain ⟨b, o, rfl, _, hp⟩ := hs.at_ h1
      obtain ⟨b', o', rfl, _, hp'⟩ := hs'.at_ h1
      obtain ⟨x, hpe⟩ : ∃ p, l[j] = p := ⟨_, rfl⟩
      rw [hpe] at hp hp'
      have c0 := hp.c0
      have c1 := hp.c1
      have c2 := hp.c2
      have c3 := hp.c3
      have c4 := hp.c4
      have c5 := hp.c5
      have c6 := hp.c6
      have c7 := hp.c7
      have c8 := hp.c8
      have d0 := hp'.c0
      have d1 := hp'.c1
      have d2 := hp'.c2
      have d3 := hp'.c3
      have d4 := hp'.c4
      have d5 := hp'.c5
      have d6 := hp'.c6
      have d7 := hp'.c7
      have d8 := hp'.c8
      have hq := fun w => neD_run x x w
      rw [decide_eq_true (rfl : x = x)] at hq
      clear hp hp' hpe hs hs'
      go_wp2
      go_quiet (fail)
      go_wp2
      go_roundw
      case rel => exact ⟨j + 1, _, by omega, by go_num, rfl⟩
      case measure => simp [intOf]; omega
    · have hji : ¬ (j : Int) < (l.length : Int) := by omega
      go_wp2
      go_ret
      exact ⟨rfl, n, rfl⟩
end Go.Proofs.YthdjlaombbeagaaGreat

/-
  CONTRACTS: few and alive of the law's package; Great, of datoms whose texts are small.
-/
namespace Go.Proofs.YthdjlaombbeagaaGreat
open Go.RowKit Go.Shelf

def costD (l : List Dat) : Int := (l.map fun d => (20 + (d.s.size : Int))).sum
theorem costD_take {l : List Dat} {j : Nat} (h : j < l.length) : costD (l.take (j + 1)) = costD (l.take j) + 20 + (l[j].s.size : Int) := by
  have ht : l.take (j + 1) = l.take j ++ [l[j]] := by rw [List.take_add_one, List.getElem?_eq_getElem h]; rfl
  unfold costD
  rw [ht, List.map_append, List.sum_append]
  simp
  omega
end Go.Proofs.YthdjlaombbeagaaGreat

/-
  THE LAW FactsOrder: its walk.
-/
namespace Go.Proofs.YthdjlaombbeagaaGreat
open Go.RowKit Go.Shelf

theorem same_sorts {l m : List Dat} (h : ∀ x, x ∈ m ↔ x ∈ l) : sortsD 1 m = sortsD 1 l := by
  have e1 : isO 1 = true := rfl
  have key : ∀ k : List Dat, Ups (ordD 1) (sortsD 1 k) ∧ ∀ z, z ∈ sortsD 1 k ↔ z ∈ k.filter (hasD 1) := fun k => by
    have h2 := putsG_from (ordD_is e1) (k.filter (hasD 1)) [] (by unfold Ups; exact List.Pairwise.nil)
    unfold sortsD
    rw [if_pos e1]
    unfold putsG
    exact ⟨h2.1, fun z => by rw [h2.2 z]; simp⟩
  refine ups_uniq (ordD_is e1) _ _ (key m).1 (key l).1 fun x => ?_
  rw [(key m).2 x, (key l).2 x, List.mem_filter, List.mem_filter, h x]
theorem same_may {l m : List Dat} (h : ∀ x, x ∈ m ↔ x ∈ l) : notMay m = notMay l := by
  unfold notMay
  rw [Bool.eq_iff_iff, List.any_eq_true, List.any_eq_true]
  exact exists_congr fun x => and_congr (h x) Iff.rfl
/-- what Fold answers of any datoms -/
def FoldU (l : List Dat) (W : World) (v : Value) (ec : Int) : Prop := (ec = 60 ∧ v = .slice none 0 0 ∧ (notMay l = true ∨ ¬ Goes (sortsD 1 l))) ∨ (ec = 0 ∧ notMay l = false ∧ Goes (sortsD 1 l) ∧ ∃ fs, FoldsTo (runsL triD (sortsD 1 l)) fs ∧ FV W v fs ∧ (∀ f ∈ fs, f.l.length ≤ 3000) ∧ fs.length ≤ 3000)
theorem fold_u (A : Option Addr) (c : Nat) (l : List Dat) (w : World) (hs : SlD w w.heap.size A l) (hl : l.length * 80 ≤ 140737488355328) (hz : ∀ d ∈ l, d.s.size ≤ maxLen) (hk : ∀ d ∈ l, SpOk (spD d)) (hf : notMay l = false → l.length ≤ 5000 ∧ (sortsD 1 l).length ≤ 3000) :
    Calls Tryz.prog 5 #[.slice A l.length c] w fun e w' => ∃ v ec, e = .returned (.tuple #[v, .int .i64 ec]) ∧ FoldU l w' v ec ∧ Below w.heap.size w w' := by
  cases hm : notMay l with
  | true =>
    refine ((callsIn_wide (n := 9)).1 (fold_bad 9 (Nat.le_of_ble_eq_true rfl) A c l w hs hl hz hm)).mono ?_
    rintro e w' ⟨rfl, hb⟩
    exact ⟨_, 60, rfl, .inl ⟨rfl, rfl, .inl hm⟩, hb⟩
  | false =>
    obtain ⟨f1, f2⟩ := hf hm
    refine (fold_any A c l w hs f1 f2 hz hk hm).mono ?_
    rintro e w' ⟨⟨v, ec, rfl, ⟨rfl, hg, fs, h1, h2, h3⟩ | ⟨rfl, rfl, hg⟩⟩, hb⟩
    · refine ⟨v, 0, rfl, .inr ⟨rfl, hm, hg, fs, h1, h2, h3.1, ?_⟩, hb⟩
      have := foldsTo_len h1
      have := runs_few triD (sortsD 1 l)
      omega
    · exact ⟨_, 60, rfl, .inl ⟨rfl, rfl, .inr hg⟩, hb⟩
end Go.Proofs.YthdjlaombbeagaaGreat
