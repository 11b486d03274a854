/-
  CONTRACTS: slices.Values, AppendSeq, Collect (of spans).
-/
import Derived.Test.YthdjlaombbeagaaGreatJSChosen
namespace Go.Proofs.YthdjlaombbeagaaGreat
open Go.RowKit Go.Shelf
attribute [local go_sem] Oper.semAt_some

/-- One round of the loop that is handed spans. -/
def HandsV (B l N : Nat) (J Jx : List Sp → World → Prop) : Prop :=
  ∀ m pre (x : Sp) W, J pre W → pre.length < N → YieldAt Fence.wide m Tryz.prog l #[.agg #[.int .i64 x.1, .int .i64 x.2]] W fun e W' =>
    (e = .returned (.bool true) ∧ J (pre ++ [x]) W' ∧ Below B W W') ∨ (e = .returned (.bool false) ∧ Jx (pre ++ [x]) W')

set_option maxRecDepth 100000 in
set_option maxHeartbeats 1000000 in
theorem values_in (w : World) (B lp C Bv : Nat) (A : Option Addr) (c : Nat) (l : List Sp) (J Jx : List Sp → World → Prop) (hA : AbidesFrom C J) (hY : HandsV B lp l.length J Jx) (n : Nat)
    (W : World) (hBW : B ≤ W.heap.size) (hwW : Below B w W) (hs : SlS w B A l) (hl : l.length ≤ 100000) (hb : W.cell? ⟨Bv, 0, none⟩ = some (.slice A l.length c)) (hJ : J [] W) :
    CallsIn Fence.wide n Tryz.prog 105 #[.func (.yield lp) #[] #[], .pointer (some ⟨Bv, 0, none⟩)] W fun e W' =>
      (∃ v, e = .returned v) ∧ (J l W' ∨ ∃ q, q <+: l ∧ Jx q W') := by
  refine callsIn_of_wp Tryz.func105 rfl trivial ?_ rfl
  simp only [Tryz.ntmps105, List.size_toArray, List.length_cons, List.length_nil, Nat.reduceAdd, Nat.reduceSub, Array.replicate_succ, Array.replicate_zero, List.push_toArray, List.append_toArray, List.nil_append, List.cons_append]
  have HS := Lib.hid hs
  have HWW := Lib.hid hwW
  clear hs hwW
  gi_wp2
  clear hb
  gi_loopw [4, 7] (fun _ y wr => ∃ j : Nat, y = .int .i64 (j : Int) ∧ j ≤ l.length ∧ J (l.take j) wr ∧ Hid (Below B w wr) ∧ B ≤ wr.heap.size) (fun _ y _ => l.length - (intOf y).toNat)
  case atStart => exact ⟨0, rfl, by omega, by rw [List.take_zero]; exact hJ, HWW.out, hBW⟩
  case round =>
    obtain ⟨j, rfl, hj, hJk, HB, hBr⟩ := hrel
    clear hJ
    by_cases hjl : j < l.length
    · have hji : (j : Int) < (l.length : Int) := by omega
      obtain ⟨b, o, rfl, _, hp⟩ := (HS.out.next HB.out (Nat.le_refl _)).at_ hjl
      have hts := List.take_succ_eq_append_getElem hjl
      obtain ⟨⟨x, y⟩, hse⟩ : ∃ s, l[j] = s := ⟨_, rfl⟩
      rw [hse] at hp hts
      have c0 := hp.c0
      have c1 := hp.c1
      have HTS := Lib.hid hts
      have hJ4 : J (l.take j) (wr.alloc (.cells #[.int .i64 x, .int .i64 y] 88)) := abides_to hA hJk ((Below.refl _ _).alloc (Nat.le_refl _) _)
      obtain ⟨fn, tmps, assign, body, hy, hR⟩ := hY (n - 1) (l.take j) (x, y) (wr.alloc (.cells #[.int .i64 x, .int .i64 y] 88)) hJ4 (by rw [List.length_take]; omega)
      have hy' : (Instr.yield lp #[.agg #[.int .i64 x, .int .i64 y]]).run Tryz.prog (wr.alloc (.cells #[.int .i64 x, .int .i64 y] 88)) = .ok (.round lp fn tmps assign body) (wr.alloc (.cells #[.int .i64 x, .int .i64 y] 88)) := hy
      have HB4 := Lib.hid (HB.out.alloc hBr (.cells #[.int .i64 x, .int .i64 y] 88))
      have hz4 : B ≤ (wr.alloc (.cells #[.int .i64 x, .int .i64 y] 88)).heap.size := by simp; omega
      have HPR := Lib.hid (List.take_prefix (j + 1) l)
      clear hp hse hts hy hJ4
      gi_wp2
      refine ⟨wide_deep _, ?_⟩
      refine hR.mono ?_
      rintro e W5 (⟨rfl, hJ5, hk5⟩ | ⟨rfl, hJx5⟩)
      · gi_wp2
        go_roundw
        case rel => exact ⟨j + 1, by go_num, by omega, by rw [HTS.out]; exact hJ5, HB4.out.trans hk5, by have := hk5.size; omega⟩
        case measure => simp [intOf]; omega
      · gi_wp2
        refine bodyPost_ret (results_none rfl _ _ _) rfl ?_
        exact ⟨⟨_, rfl⟩, .inr ⟨l.take (j + 1), HPR.out, by rw [HTS.out]; exact hJx5⟩⟩
    · have hji : ¬ (j : Int) < (l.length : Int) := by omega
      rw [List.take_of_length_le (by omega)] at hJk
      gi_wp2
      go_end0
      exact ⟨⟨_, rfl⟩, .inl hJk⟩

theorem values_stops (n : Nat) (B Bv : Nat) (A : Option Addr) (c : Nat) (l : List Sp) (w : World) (hB : B ≤ w.heap.size) (hBv : Bv < w.heap.size) (hs : SlS w B A l) (hl : l.length ≤ 100000) (hb : w.cell? ⟨Bv, 0, none⟩ = some (.slice A l.length c)) :
    SeqStopsK Fence.wide n Tryz.prog 105 #[.pointer (some ⟨Bv, 0, none⟩)] (fun x : Sp => #[.agg #[.int .i64 x.1, .int .i64 x.2]]) (Below B) (fun ys => ys = l) (fun q => q <+: l) l.length w := fun lp J Jx W hW hA _ hY h0' => by
  have hH : HandsV B lp l.length J Jx := fun m pre x W1 hj hl => YieldAt.anyDepth m (hY pre x W1 hj hl)
  have g0 := (hW.cell (p := ⟨Bv, 0, none⟩) hBv).trans hb
  refine (values_in w B lp W.heap.size Bv A c l J Jx hA hH n W (Nat.le_trans hB hW.size) (hW.mono hB) hs hl g0 h0').mono ?_
  rintro e W' ⟨hv, hj | ⟨q, hq, hx⟩⟩
  · exact ⟨hv, .inl ⟨_, rfl, hj⟩⟩
  · exact ⟨hv, .inr ⟨q, hq, hx⟩⟩

set_option maxHeartbeats 400000 in
theorem valuesOf_any (A : Option Addr) (n c : Nat) (w : World) :
    Calls Tryz.prog 68 #[.slice A n c] w fun e w' => e = .returned (.func (.func 105) #[] #[.pointer (some ⟨w.heap.size, 0, none⟩)]) ∧ w' = w.alloc (.cells #[.slice A n c] 60) := by
  go_enter Tryz.func68, Tryz.ntmps68
  go_wp2
  go_ret
  exact ⟨rfl, rfl⟩

/-- what stands behind some rounds of AppendSeq -/
def VMid (w : World) (N : Nat) (pre : List Sp) (W : World) : Prop :=
  ∃ v, Boxed W w.heap.size 60 v ∧ OwnS W w.heap.size v pre ∧ Below w.heap.size w W ∧ pre.length ≤ N
theorem vMid_own (w : World) (N : Nat) : OwnFrom (w.heap.size + 1) (VMid w N) := fun pre X Y row ⟨v, g1, g2, g6, g8⟩ hg hr => by
  have hne : ∀ b, b < w.heap.size + 1 → some b ≠ row := fun b hb e => by have := (hr b e.symm).1; omega
  exact ⟨v, g1.kept hg (hne _ (by omega)), g2.kept hg (fun r e => (hr r e).2), g6.grown hg g6.size (fun j ej => by have := (hr j ej).1; omega), g8⟩
theorem VMid.alloc {w : World} {N : Nat} {pre : List Sp} {W : World} (h : VMid w N pre W) (o : Obj) : VMid w N pre (W.alloc o) := by
  obtain ⟨v, g1, g2, g6, g8⟩ := h
  exact ⟨v, g1.alloc _, g2.alloc _, g6.alloc g6.size _, g8⟩

set_option maxRecDepth 100000 in
set_option maxHeartbeats 1000000 in
theorem appendSeq_in (m : Nat) (hm3 : Hid (3 ≤ m)) (Bv : Nat) (A : Option Addr) (c : Nat) (l : List Sp) (w : World) (hBv : Bv < w.heap.size) (hs : SlS w w.heap.size A l) (hl : l.length ≤ 100000) (hb : w.cell? ⟨Bv, 0, none⟩ = some (.slice A l.length c)) :
    CallsIn Fence.wide m Tryz.prog 125 #[.slice none 0 0, .func (.func 105) #[] #[.pointer (some ⟨Bv, 0, none⟩)]] w fun e w' => ∃ v, e = .returned v ∧ OwnS w' w.heap.size v l ∧ Below w.heap.size w w' := by
  obtain ⟨i0, hi, hz0, hz1, hz2⟩ := info_parts info92
  have hmx : 100001 ≤ maxLen := by decide
  refine callsIn_of_wp_marks Tryz.func125 rfl trivial ?_ rfl
  simp only [Tryz.ntmps125, List.size_toArray, List.length_cons, List.length_nil, Nat.reduceAdd, Nat.reduceSub, Array.replicate_succ, Array.replicate_zero, List.push_toArray, List.append_toArray, List.nil_append, List.cons_append]
  have HS := Lib.hid hs
  have HBC := Lib.hid hb
  clear hs hb
  gi_wp2_with fail
  obtain ⟨W2, hW2⟩ : ∃ W2, w.alloc (.cells #[.slice none 0 0] 60) = W2 := ⟨_, rfl⟩
  have hz : W2.heap.size = w.heap.size + 1 := by rw [← hW2]; simp
  have hBw : Below w.heap.size w W2 := by rw [← hW2]; exact (Below.refl _ _).alloc (Nat.le_refl _) _
  have hP : Boxed W2 w.heap.size 60 (.slice none 0 0) := by rw [← hW2]; exact Boxed.new _ _ _
  rw [hW2]
  clear hW2
  have hro : Fence.wide.round = none := rfl
  refine wpIn_rangeFunc_ownH hro (by have := hm3.out; omega) (gf := 105) (lb := #[.pointer (some ⟨Bv, 0, none⟩)]) rfl trivial (enters_of Tryz.func105 (by kernel_rfl) rfl)
    (values_stops (m - 1) w.heap.size Bv A c l W2 (by omega) (by omega) (HS.out.next hBw (Nat.le_refl _)) hl ((hBw.cell (p := ⟨Bv, 0, none⟩) hBv).trans HBC.out))
    (fun h k => h.trans k) (fun W l o o' hl h h1 h2 => belowK_b (w := W2) (n₀ := w.heap.size) (by omega) W l o o' hl h h1 h2) (Below.refl _ _) (fun _ => rfl)
    (VMid w l.length) (fun _ _ _ => False) (by rw [hz]; exact vMid_own _ _) (fun _ _ _ _ _ h => h.elim)
    ⟨_, hP, ownS_nil _ _, hBw, by simp⟩
    (fun x a' W => ∃ g, SpBox W g x ∧ a' = { tmps := #[.slice none 0 0, .func (.func 105) #[] #[.pointer (some ⟨Bv, 0, none⟩)], .pointer (some ⟨w.heap.size, 0, none⟩), undef, .slice none 0 0, .pointer (some ⟨g, 0, none⟩), .func (.func 105) #[] #[.pointer (some ⟨Bv, 0, none⟩)], .agg #[.int .i64 x.1, .int .i64 x.2], undef, undef, undef, undef, undef], defers := [] })
    (fun x a' _ X Y row ⟨g, hg, e⟩ hgr hr => ⟨g, hg.kept hgr (fun r e => (hr r e).2), e⟩) ?assign ?body ?done ?stop
  case assign =>
    rintro lp pre x W K hM hK
    gi_wp2
    exact hK _ _ (keepsFrom_below ((Below.refl _ W).alloc (Nat.le_refl _) _)) ((Below.refl _ W).alloc (by obtain ⟨_, _, _, h6, _⟩ := hM; exact h6.size) _) (hM.alloc _) ⟨W.heap.size, heap_alloc_new W _, rfl⟩
  case body =>
    rintro lp pre ⟨x0, x1⟩ a' W hwl _ ⟨v, h1, h2, h6, h8⟩ ⟨g, hg, rfl⟩ hlt
    have b0 := h1.cell
    have b1 := h1.frozen
    have k0 := hg.cell 0
    have k1 := hg.cell 1
    simp at k0 k1
    have hbz := h6.size
    gi_wp2_with (gi_at_builtin; refine wpListIn_append_own _ rfl _ _ 60 rfl w.heap.size 88 i0 (.agg #[.int .i64 0, .int .i64 0]) 2 16 Tryz.underlying60 hi hz0 hz1 hz2 rfl (by decide) _ _ _ rfl (h2.alloc _) ⟨W.heap.size, 0, none⟩ 1 1 (cellsS (x0, x1)) rfl rfl (fun j u h => cell_lit _ _ _ j u h) (cellsS_one _) (by omega) (by omega) (by simp; omega) ?_; intro v' w3 hown' hgrow _; obtain ⟨g', cap', rfl⟩ := ownsRow_succ hown'; obtain ⟨hv1, hv2, hr2, hk2, hb2⟩ := h1.appended (by decide) h2 h6.size (Nat.le_refl _) hown' hgrow; have y0 := hv1.cell; have y1 := hv1.frozen)
    have hr3 : OwnS (w3.setCell ⟨w.heap.size, 0, none⟩ (.slice (some ⟨g', 0, none⟩) (pre.length + 1) cap')) w.heap.size (.slice (some ⟨g', 0, none⟩) (pre.length + 1) cap') (pre ++ [(x0, x1)]) := by
      show World.ownsRow _ _ _ _ _ _ _
      simpa using hr2
    exact ⟨hk2.from _, hb2, _, hv2, hr3, h6.trans hb2, by rw [List.length_append]; simp; omega⟩
  case done =>
    rintro D ys W hD hys ⟨v, h1, h2, h6, h8⟩ hK
    obtain ⟨A9, c9, rfl, _, _, _⟩ := h2.sls
    have b0 := h1.cell
    subst hys
    have HE := Lib.hid (And.intro (h2.kept (grownBy_putObj' W D (.deferred none)) (fun r e => by injection e with e; subst e; exact ⟨_, hK, rfl⟩)) (h6.trans (belowK_b (w := W2) (n₀ := w.heap.size) (by omega) W D _ (.deferred none) hD hK rfl rfl)))
    clear h1 h2 h6 h8
    gi_wp2
    refine ⟨by simp, .inl ⟨_, _, rfl, run_takeDeferred hK, ?_⟩⟩
    exact ⟨_, results_tmp rfl _ _ _, by exact ⟨_, rfl, HE.out.1, HE.out.2⟩⟩
  case stop =>
    rintro D cd pre W _ _ h _
    exact h.elim

set_option maxHeartbeats 400000 in
theorem collect_any (Bv : Nat) (A : Option Addr) (c : Nat) (l : List Sp) (w : World) (hBv : Bv < w.heap.size) (hs : SlS w w.heap.size A l) (hl : l.length ≤ 100000) (hb : w.cell? ⟨Bv, 0, none⟩ = some (.slice A l.length c)) :
    Calls Tryz.prog 103 #[.func (.func 105) #[] #[.pointer (some ⟨Bv, 0, none⟩)]] w fun e w' => ∃ v, e = .returned v ∧ OwnS w' w.heap.size v l ∧ Below w.heap.size w w' := by
  have hch := (callsIn_wide (n := 9)).1 (appendSeq_in 9 (Nat.le_of_ble_eq_true rfl) Bv A c l w hBv hs hl hb)
  have HC := Lib.hid hch
  clear hch hs hb
  go_enter Tryz.func103, Tryz.ntmps103
  go_wp2_with fail
  refine HC.out.mono ?_
  rintro e w' ⟨v, rfl, ho, hb⟩
  obtain ⟨A9, c9, rfl, _, _, _⟩ := ho.sls
  have HE := Lib.hid (And.intro ho hb)
  clear ho hb
  go_wp2
  go_ret
  exact ⟨_, rfl, HE.out.1, HE.out.2⟩
end Go.Proofs.YthdjlaombbeagaaGreat
