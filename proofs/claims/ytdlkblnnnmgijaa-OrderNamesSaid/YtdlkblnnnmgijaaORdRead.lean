/-
  CONTRACT: Read (the program's).
-/
import Derived.Test.YtdlkblnnnmgijaaORdTold
import Derived.Test.YtdlkblnnnmgijaaOEnd
import Derived.OwnWalkIn
import Derived.RangeFuncNested
namespace Go.Proofs.Ytdlkblnnnmgijaa
open Go.RowKit Go.Shelf
attribute [local go_sem] Oper.semAt_some

theorem info44 : (Try.prog.info? 40).map (fun i => (i.zero, i.size, i.bytes)) = some (some (.agg #[.bool false, .int .i64 0, .int .i64 0, .int .i64 0, .string ⟨#[]⟩]), 5, 48) := by kernel_rfl
def cellsP (p : PartP) : List Value := [.bool p.v, .int .i64 p.n, .int .i64 p.k, .int .i64 p.m, .string p.s]
/-- a slice of parts in blocks from B on, which the call has to itself -/
def OwnP (W : World) (B : Nat) (v : Value) (l : List PartP) : Prop := W.ownsRow B 40 5 v l.length (l.flatMap cellsP)
theorem OwnP.kept {W W' : World} {B : Nat} {v : Value} {l : List PartP} {row : Option Nat} (h : OwnP W B v l) (hg : W.grownBy W' row) (hr : ∀ r, row = some r → ∃ o : Obj, W.heap[r]? = some o ∧ o.isCells = false) : OwnP W' B v l := by
  refine World.ownsRow.kept (row := row) h hg ?_
  rcases h.2 with ⟨rfl, _⟩ | ⟨g, cap, cur, rfl, _, hgb, _⟩
  · exact .inl rfl
  · refine .inr fun e => ?_
    obtain ⟨_, ho, hc⟩ := hr g (by rw [← e]; rfl)
    rw [hgb] at ho
    cases ho
    simp [Obj.isCells] at hc
theorem OwnP.other {W : World} {B b : Nat} {t : TypeId} {u v : Value} {l : List PartP} (h : OwnP W B v l) (hb : Boxed W b t u) (ht : t ≠ 40) (u' : Value) : OwnP (W.setCell ⟨b, 0, none⟩ u') B v l := by
  refine World.ownsRow.kept (row := some b) h (grownBy_setCell' W b u') ?_
  have h1 := hb.not_row ht h
  cases hv : v.ownBlock with
  | none => exact .inl rfl
  | some g => exact .inr (fun e => h1 (by rw [hv, e]))
theorem OwnP.alloc {W : World} {B : Nat} {v : Value} {l : List PartP} (h : OwnP W B v l) (o : Obj) : OwnP (W.alloc o) B v l := World.ownsRow.alloc h o
theorem PartBox.kept {W W' : World} {b : Nat} {p : PartP} {row : Option Nat} (h : PartBox W b p) (hg : W.grownBy W' row) (hr : ∀ r, row = some r → ∃ o : Obj, W.heap[r]? = some o ∧ o.isCells = false) : PartBox W' b p := by
  refine (hg.block b (Array.getElem?_eq_some_iff.1 h).1 fun e => ?_).trans h
  obtain ⟨o, ho, hc⟩ := hr b e.symm
  rw [show W.heap[b]? = _ from h] at ho
  cases ho
  simp [Obj.isCells] at hc

/-- what stands behind the last part that was told -/
def lastR {w : World} {B : Nat} (r0 : Value) (pre : List (Tl w B)) : Value := match pre.getLast? with
  | none => r0
  | some x => x.r
def RMid (w w0 : World) (B : Nat) (r0 : Value) (pre : List (Tl w B)) (W : World) : Prop :=
  ∃ v, Boxed W w0.heap.size 28 v ∧ OwnP W w0.heap.size v (pre.map (·.p)) ∧ Boxed W (w0.heap.size + 1) 29 (lastR r0 pre) ∧ Below w0.heap.size w0 W ∧ pre.length ≤ 1200
theorem rMid_own (w w0 : World) (B : Nat) (r0 : Value) : OwnFrom (w0.heap.size + 4) (RMid w w0 B r0) := fun pre X Y row ⟨v, h1, h2, h3, h4, h5⟩ hg hr => by
  have hne : ∀ b, b < w0.heap.size + 4 → some b ≠ row := fun b hb e => by have := (hr b e.symm).1; omega
  exact ⟨v, h1.kept hg (hne _ (by omega)), h2.kept hg (fun r e => (hr r e).2), h3.kept hg (hne _ (by omega)), h4.grown hg h4.size (fun j ej => by have := (hr j ej).1; omega), h5⟩

theorem ownsRow_succ' {W : World} {B : Nat} {e : TypeId} {size n : Nat} {v : Value} {xs : List Value} (h : W.ownsRow B e size v (n + 1) xs) : ∃ g cap, v = .slice (some ⟨g, 0, none⟩) (n + 1) cap := by
  rcases h.2 with ⟨_, h0⟩ | ⟨g, cap, cur, rfl, _⟩
  · omega
  · exact ⟨g, cap, rfl⟩
theorem cellsP_one (p : PartP) : ∀ u ∈ cellsP p, u.oneCell' = true := by
  intro u hu
  simp [cellsP] at hu
  rcases hu with rfl | rfl | rfl | rfl | rfl <;> rfl

/-- what bytes are read as, whole -/
def readL (ks : List Bool) (b : List UInt8) : Option (List PartP) := if (tellL ks b).length = ks.length ∧ ((tellL ks b).getLast?.map (·.2)).getD b = [] then some ((tellL ks b).map (·.1)) else none
theorem tellL_len : ∀ (ks : List Bool) (b : List UInt8), (tellL ks b).length ≤ ks.length
  | [], _ => Nat.le_refl _
  | v :: ks, b => by
    rw [tellL]
    split
    · simp
    · have := tellL_len ks
      simp [this]
theorem ownP_form {W : World} {B : Nat} {v : Value} {l : List PartP} (h : OwnP W B v l) : ∃ A c, v = .slice A l.length c := by
  rcases h.2 with ⟨rfl, h0⟩ | ⟨g, cap, cur, rfl, _⟩
  · exact ⟨none, 0, by rw [h0]⟩
  · exact ⟨_, _, rfl⟩
theorem lastR_is {w : World} {B : Nat} (A : Option Addr) (c : Nat) (b : List UInt8) (pre : List (Tl w B)) : ∃ RA rc u, lastR (.slice A b.length c) pre = .slice RA u.length rc ∧ u = (pre.getLast?.map (·.t)).getD b := by
  unfold lastR
  cases pre.getLast? with
  | none => exact ⟨A, c, b, rfl, rfl⟩
  | some x =>
    obtain ⟨RA, rc, e, _⟩ := x.ok
    exact ⟨RA, rc, x.t, e, rfl⟩
/-- What Read answers. -/
def ReadEnd (W : World) (ks : List Bool) (b : List UInt8) (e : Ending) (w' : World) : Prop :=
  ((∃ ps v, readL ks b = some ps ∧ e = .returned (.tuple #[v, .int .i64 0]) ∧ OwnP w' W.heap.size v ps) ∨ (readL ks b = none ∧ e = .returned (.tuple #[.slice none 0 0, .int .i64 20]))) ∧ Below W.heap.size W w'
theorem readEnd_yes {W w' : World} {ks : List Bool} {b : List UInt8} {ps : List PartP} {v : Value} (h : readL ks b = some ps) (ho : OwnP w' W.heap.size v ps) (hb : Below W.heap.size W w') : ReadEnd W ks b (.returned (.tuple #[v, .int .i64 0])) w' := ⟨.inl ⟨ps, v, h, rfl, ho⟩, hb⟩
theorem readEnd_no {W w' : World} {ks : List Bool} {b : List UInt8} {v n : Value} (h : readL ks b = none) (hv : v = .slice none 0 0) (hn : n = .int .i64 20) (hb : Below W.heap.size W w') : ReadEnd W ks b (.returned (.tuple #[v, n])) w' := ⟨.inr ⟨h, by rw [hv, hn]⟩, hb⟩

set_option maxRecDepth 100000 in
set_option maxHeartbeats 4000000 in
theorem read_in (m : Nat) (hm3 : Hid (3 ≤ m)) (A A' : Option Addr) (c c' : Nat) (b : List UInt8) (ks : List Bool) (w : World) (hs : SlB w w.heap.size A b) (hsk : SlK w w.heap.size A' ks) (hl : b.length ≤ 10000) (hk : ks.length ≤ 1200) (hlc : b.length ≤ c) (hc : c ≤ maxLen) :
    CallsIn Fence.wide m Try.prog 24 #[.slice A b.length c, .slice A' ks.length c'] w (ReadEnd w ks b) := by
  obtain ⟨i0, hi, hz0, hz1, hz2⟩ := info_parts info44
  have hmx : 50000 ≤ maxLen := by decide
  refine callsIn_of_wp_marks Try.func24 rfl trivial ?_ rfl
  simp only [Try.ntmps24, List.size_toArray, List.length_cons, List.length_nil, Nat.reduceAdd, Nat.reduceSub, Array.replicate_succ, Array.replicate_zero, List.push_toArray, List.append_toArray, List.nil_append, List.cons_append]
  gi_wp2_with fail
  refine ⟨trivial, wide_deep _, ?_⟩
  refine (callsIn_wide.2 (toldOf_any _ _ _ _ _ _ _)).mono ?_
  rintro e w2 ⟨rfl, rfl⟩
  gi_wp2_with fail
  obtain ⟨W2, hW2⟩ : ∃ W2, ((((w.alloc (.cells #[.slice none 0 0] 28)).alloc (.cells #[.slice A b.length c] 29)).alloc (.cells #[.slice A b.length c] 29)).alloc (.cells #[.slice A' ks.length c'] 44)) = W2 := ⟨_, rfl⟩
  have hz : W2.heap.size = w.heap.size + 4 := by rw [← hW2]; simp
  have hB2 : Below w.heap.size w W2 := by rw [← hW2]; exact ((((Below.refl _ _).alloc (Nat.le_refl _) _).alloc (by simp) _).alloc (by simp; omega) _).alloc (by simp; omega) _
  have hP : Boxed W2 w.heap.size 28 (.slice none 0 0) := by
    rw [← hW2]
    exact (((Boxed.new w 28 (.slice none 0 0)).alloc _).alloc _).alloc _
  have hQ : Boxed W2 (w.heap.size + 1) 29 (.slice A b.length c) := by
    rw [← hW2]
    have := Boxed.new (w.alloc (.cells #[.slice none 0 0] 28)) 29 (.slice A b.length c)
    rw [World.size_alloc] at this
    exact (this.alloc _).alloc _
  have hV1 : Boxed W2 (w.heap.size + 1 + 1) 29 (.slice A b.length c) := by
    rw [← hW2]
    have := Boxed.new ((w.alloc (.cells #[.slice none 0 0] 28)).alloc (.cells #[.slice A b.length c] 29)) 29 (.slice A b.length c)
    rw [World.size_alloc, World.size_alloc] at this
    exact this.alloc _
  have hV2 : Boxed W2 (w.heap.size + 1 + 1 + 1) 44 (.slice A' ks.length c') := by
    rw [← hW2]
    have := Boxed.new (((w.alloc (.cells #[.slice none 0 0] 28)).alloc (.cells #[.slice A b.length c] 29)).alloc (.cells #[.slice A b.length c] 29)) 44 (.slice A' ks.length c')
    rw [World.size_alloc, World.size_alloc, World.size_alloc] at this
    exact this
  rw [hW2]
  clear hW2
  have hro : Fence.wide.round = none := rfl
  refine wpIn_rangeFunc_ownH hro (by have := hm3.out; omega) (gf := 84) (lb := #[.pointer (some ⟨w.heap.size + 1 + 1, 0, none⟩), .pointer (some ⟨w.heap.size + 1 + 1 + 1, 0, none⟩)]) rfl trivial (enters_of Try.func84 (by kernel_rfl) rfl)
    (told_stops (m - 1) w.heap.size (w.heap.size + 1 + 1) (w.heap.size + 1 + 1 + 1) A A' c c' b ks hl hk W2 (by omega) (by omega) (by omega) (hs.next hB2 (Nat.le_refl _)) (hsk.next hB2 (Nat.le_refl _)) hlc hc hV1.cell hV2.cell)
    (fun h k => h.trans k) (fun W l o o' hl h h1 h2 => belowK_b (w := W2) (n₀ := w.heap.size) (by omega) W l o o' hl h h1 h2) (Below.refl _ _) (fun _ => rfl)
    (RMid W2 w w.heap.size (.slice A b.length c)) (fun _ _ _ => False) (by rw [hz]; exact rMid_own _ _ _ _) (fun _ _ _ _ _ h => h.elim)
    ⟨_, hP, World.ownsRow_nil _ _ _ _, hQ, hB2, by simp⟩
    (fun x a' W => ∃ g, PartBox W g x.p ∧ a' = { tmps := #[.slice A b.length c, .slice A' ks.length c', undef, undef, .slice none 0 0, .int .i64 0, .pointer (some ⟨w.heap.size, 0, none⟩), .pointer (some ⟨w.heap.size + 1, 0, none⟩), .pointer (some ⟨g, 0, none⟩), x.r, .slice A b.length c, .slice A b.length c, .slice A' ks.length c', .func (.func 84) #[] #[.pointer (some ⟨w.heap.size + 1 + 1, 0, none⟩), .pointer (some ⟨w.heap.size + 1 + 1 + 1, 0, none⟩)], .agg #[.bool x.p.v, .int .i64 x.p.n, .int .i64 x.p.k, .int .i64 x.p.m, .string x.p.s], x.r, undef, undef, undef, undef, undef, undef, undef, undef, undef, undef, undef, undef, undef, undef, undef, undef], defers := [] })
    (fun x a' _ X Y row ⟨g, hg, e⟩ hgr hr => ⟨g, hg.kept hgr (fun r e => (hr r e).2), e⟩) ?assign ?body ?done ?stop
  case assign =>
    rintro l pre x W K ⟨v, h1, h2, h3, h4, h5⟩ hK
    simp only [partV]
    gi_wp2
    exact hK _ _ (keepsFrom_below ((Below.refl _ W).alloc (Nat.le_refl _) _)) ((Below.refl _ W).alloc h4.size _) ⟨v, h1.alloc _, h2.alloc _, h3.alloc _, h4.alloc h4.size _, h5⟩ ⟨W.heap.size, partBox_new W x.p, rfl⟩
  case body =>
    rintro l pre x a' W hwl _ ⟨v, h1, h2, h3, h4, h5⟩ ⟨g, hg, rfl⟩ hlt
    have b0 := h1.cell
    have b1 := h1.frozen
    have k0 := hg.cell 0
    have k1 := hg.cell 1
    have k2 := hg.cell 2
    have k3 := hg.cell 3
    have k4 := hg.cell 4
    simp at k0 k1 k2 k3 k4
    have hpm : (pre.map (·.p)).length = pre.length := List.length_map _
    have hbz := h4.size
    obtain ⟨RA, rn, rc, hxr⟩ : ∃ RA rn rc, x.r = .slice RA rn rc := by obtain ⟨RA, rc, e, _⟩ := x.ok; exact ⟨RA, _, rc, e⟩
    rw [hxr]
    have HXR := Lib.hid hxr
    clear hxr
    gi_wp2_with (gi_at_builtin; refine wpListIn_append_own _ rfl _ _ 28 rfl w.heap.size 40 i0 (.agg #[.bool false, .int .i64 0, .int .i64 0, .int .i64 0, .string ⟨#[]⟩]) 5 48 Try.underlying28 hi hz0 hz1 hz2 rfl (by decide) _ _ _ rfl (h2.alloc _) ⟨W.heap.size, 0, none⟩ 1 1 (cellsP x.p) rfl rfl (fun j u h => cell_lit _ _ _ j u h) (cellsP_one x.p) (by omega) (by omega) (by simp; omega) ?_; intro v' w3 hown' hgrow _; rw [hpm] at hown'; obtain ⟨g', cap', rfl⟩ := ownsRow_succ' hown'; obtain ⟨hv1, hv2, hr2, hk2, hb2⟩ := h1.appended (by decide) h2 h4.size (Nat.le_refl _) hown' hgrow; have hq3 := (h3.alloc (.cells #[.bool x.p.v, .int .i64 x.p.n, .int .i64 x.p.k, .int .i64 x.p.m, .string x.p.s] 40)).kept hgrow (h3.not_row (by decide) h2); have hq4 : Boxed (w3.setCell ⟨w.heap.size, 0, none⟩ (.slice (some ⟨g', 0, none⟩) (pre.length + 1) cap')) (w.heap.size + 1) 29 _ := hq3.other (by omega) _; have y0 := hv1.cell; have y1 := hv1.frozen; have y2 := hq4.cell; have y3 := hq4.frozen)
    have hr3 : OwnP (w3.setCell ⟨w.heap.size, 0, none⟩ (.slice (some ⟨g', 0, none⟩) (pre.length + 1) cap')) w.heap.size (.slice (some ⟨g', 0, none⟩) (pre.length + 1) cap') ((pre ++ [x]).map (·.p)) := by
      show World.ownsRow _ _ _ _ _ _ _
      simpa using hr2
    exact ⟨(hk2.from _).trans (keepsFrom_set (p := ⟨w.heap.size + 1, 0, none⟩) hq4 _), hb2.setCell (p := ⟨w.heap.size + 1, 0, none⟩) (Nat.le_succ _) _, _, hv2.other (by omega) _, hr3.other hq4 (by decide) _, (by have := hq4.set (.slice RA rn rc); rw [← HXR.out] at this ⊢; simpa [lastR] using this), (h4.trans hb2).setCell (p := ⟨w.heap.size + 1, 0, none⟩) (Nat.le_succ _) _, by rw [List.length_append]; simp; omega⟩
  case done =>
    rintro D ys W hD hys ⟨v, h1, h2, h3, h4, h5⟩ hK
    have hLp : ys.length = (tellL ks b).length := by rw [← hys, List.length_map]
    have hLk := tellL_len ks b
    have hPs : ys.map (·.p) = (tellL ks b).map (·.1) := by rw [← hys, List.map_map]; rfl
    obtain ⟨RA, rc, u, hru, hu⟩ := lastR_is (w := W2) (B := w.heap.size) A c b ys
    have hLast : u = ((tellL ks b).getLast?.map (·.2)).getD b := by rw [hu, ← hys, List.getLast?_map, Option.map_map]; rfl
    obtain ⟨X, x, rfl⟩ := ownP_form h2
    have b0 := h1.cell
    rw [hru] at h3
    have q0 := h3.cell
    rw [List.length_map] at b0
    have H2 := Lib.hid h2
    have H4 := Lib.hid h4
    have HPS := Lib.hid hPs
    have HLAST := Lib.hid hLast
    have HLP := Lib.hid hLp
    clear h1 h2 h3 h4 hru hu hPs hLast hys hLp
    have hbw : Below w.heap.size w (W.putObj D (.deferred none)) := H4.out.trans (belowK_b (w := W2) (n₀ := w.heap.size) (by omega) W D _ _ hD hK rfl rfl)
    have HBW := Lib.hid hbw
    clear hbw
    by_cases ha : ys.length < ks.length
    · have hai : (ys.length : Int) < (ks.length : Int) := by omega
      have HN : Hid (readL ks b = none) := by
        show _ = _
        unfold readL
        rw [if_neg]
        intro h
        have := h.1
        rw [← HLP.out] at this
        omega
      gi_wp2
      refine ⟨by simp, .inl ⟨_, _, rfl, run_takeDeferred hK, ?_⟩⟩
      exact ⟨_, results_tmp2 rfl _ _ _, readEnd_no HN.out rfl rfl HBW.out⟩
    · have hai : ¬ (ys.length : Int) < (ks.length : Int) := by omega
      by_cases hb0 : u = []
      · have hul : u.length = 0 := by rw [hb0]; rfl
        have HY : Hid (readL ks b = some ((tellL ks b).map (·.1))) := by
          show _ = _
          unfold readL
          rw [if_pos ⟨by have := HLP.out; omega, by rw [← HLAST.out, hb0]⟩]
        have hul0 : ¬ (0 : Int) < (u.length : Int) := by omega
        clear hb0
        gi_wp2
        refine ⟨by simp, .inl ⟨_, _, rfl, run_takeDeferred hK, ?_⟩⟩
        exact ⟨_, results_tmp2 rfl _ _ _, readEnd_yes HY.out (by have h9 := H2.out.kept (grownBy_putObj' W D (.deferred none)) (fun r e => by injection e with e; subst e; exact ⟨_, hK, rfl⟩); rw [← HPS.out]; simpa using h9) HBW.out⟩
      · have hul : (0 : Int) < (u.length : Int) := by
          have : u.length ≠ 0 := fun e => hb0 (List.length_eq_zero_iff.1 e)
          omega
        have HN : Hid (readL ks b = none) := by
          show _ = _
          unfold readL
          rw [if_neg]
          intro h
          rw [← HLAST.out] at h
          exact hb0 h.2
        clear hb0
        gi_wp2
        refine ⟨by simp, .inl ⟨_, _, rfl, run_takeDeferred hK, ?_⟩⟩
        exact ⟨_, results_tmp2 rfl _ _ _, readEnd_no HN.out rfl rfl HBW.out⟩
  case stop =>
    rintro D cd pre W _ _ h _
    exact h.elim

theorem read_any (A A' : Option Addr) (c c' : Nat) (b : List UInt8) (ks : List Bool) (w : World) (hs : SlB w w.heap.size A b) (hsk : SlK w w.heap.size A' ks) (hl : b.length ≤ 10000) (hk : ks.length ≤ 1200) (hlc : b.length ≤ c) (hc : c ≤ maxLen) :
    Calls Try.prog 24 #[.slice A b.length c, .slice A' ks.length c'] w (ReadEnd w ks b) :=
  (callsIn_wide (n := 9)).1 (read_in 9 (Nat.le_of_ble_eq_true rfl) A A' c c' b ks w hs hsk hl hk hlc hc)
end Go.Proofs.Ytdlkblnnnmgijaa
