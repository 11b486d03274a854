/-
  CONTRACTS: chosen; Or, And, Minus.
-/
import Derived.Laws.EntriesVeiled
import Derived.Test.YthdjlaombbeagaaGreatJSToldS
import Derived.Test.YthdjlaombbeagaaGreatJSAdd
import Derived.Test.YthdjlaombbeagaaGreatJOEnd
namespace Go.Proofs.YthdjlaombbeagaaGreat
open Go.RowKit Go.Shelf
attribute [local go_sem] Oper.semAt_some

def SpBox (W : World) (g : Nat) (s : Sp) : Prop := W.heap[g]? = some (.cells #[.int .i64 s.1, .int .i64 s.2] 88 (0, 0))
theorem SpBox.cell {W : World} {g : Nat} {s : Sp} (h : SpBox W g s) (j : Nat) : W.cell? ⟨g, j, none⟩ = (#[Value.int .i64 s.1, .int .i64 s.2])[j]? := by unfold SpBox at h; simp [World.cell?, h]
theorem SpBox.kept {W W' : World} {g : Nat} {s : Sp} {row : Option Nat} (h : SpBox W g s) (hg : W.grownBy W' row) (hr : ∀ r, row = some r → ∃ o : Obj, W.heap[r]? = some o ∧ o.isCells = false) : SpBox W' g s := by
  refine (hg.block g (Array.getElem?_eq_some_iff.1 h).1 fun e => ?_).trans h
  obtain ⟨o, ho, hc⟩ := hr g e.symm
  rw [show W.heap[g]? = _ from h] at ho
  cases ho
  simp [Obj.isCells] at hc
/-- what stands behind some rounds: the set so far, and the boxes -/
def CMid (w : World) (F n1 : Nat) (f : Nat → Bool) (N : Nat) (pre : List (Sp × Nat)) (W : World) : Prop :=
  ∃ v, Boxed W n1 60 v ∧ OwnS W w.heap.size v (pickL f [] pre) ∧ Boxed W (n1 + 1) 125 (.pointer (some ⟨n1, 0, none⟩)) ∧ Boxed W w.heap.size 128 (.func (.func F) #[] #[]) ∧
    Boxed W (n1 + 1 + 1) 123 (.func (.func 107) #[] #[.pointer (some ⟨n1 + 1, 0, none⟩)]) ∧ Below w.heap.size w W ∧ w.heap.size < n1 ∧ pre.length ≤ N
theorem cMid_own (w : World) (F n1 : Nat) (f : Nat → Bool) (N : Nat) (h1 : w.heap.size < n1) : OwnFrom (n1 + 5) (CMid w F n1 f N) := fun pre X Y row ⟨v, g1, g2, g3, g4, g5, g6, g7, g8⟩ hg hr => by
  have hne : ∀ b, b < n1 + 5 → some b ≠ row := fun b hb e => by have := (hr b e.symm).1; omega
  exact ⟨v, g1.kept hg (hne _ (by omega)), g2.kept hg (fun r e => (hr r e).2), g3.kept hg (hne _ (by omega)), g4.kept hg (hne _ (by omega)), g5.kept hg (hne _ (by omega)), g6.grown hg g6.size (fun j ej => by have := (hr j ej).1; omega), g7, g8⟩
theorem CMid.alloc {w : World} {F n1 : Nat} {f : Nat → Bool} {N : Nat} {pre : List (Sp × Nat)} {W : World} (h : CMid w F n1 f N pre W) (o : Obj) : CMid w F n1 f N pre (W.alloc o) := by
  obtain ⟨v, g1, g2, g3, g4, g5, g6, g7, g8⟩ := h
  exact ⟨v, g1.alloc _, g2.alloc _, g3.alloc _, g4.alloc _, g5.alloc _, g6.alloc g6.size _, g7, g8⟩
def chosenL (f : Nat → Bool) (a b l : List Sp) : Prop := ∃ r, Told a b minT r ∧ l = pickL f [] r
/-- What choosing answers. -/
def ChEnd (W : World) (f : Nat → Bool) (a b : List Sp) (e : Ending) (W' : World) : Prop :=
  ((setB a = true ∧ setB b = true ∧ ∃ l v, chosenL f a b l ∧ l.length ≤ 2 * a.length + 2 * b.length ∧ e = .returned (.tuple #[v, .int .i64 0]) ∧ OwnS W' W.heap.size v l) ∨
   ((setB a && setB b) = false ∧ e = .returned (.tuple #[.slice none 0 0, .int .i64 30]))) ∧ Below W.heap.size W W'
theorem live_of {l : List Sp} (h : setB l = true) (hk : ∀ s ∈ l, SpOk s) : Live l minT := by
  have hs : SetL l := of_decide_eq_true h
  exact ⟨hs, fun s hm => by have := hk s hm; have := hs.2 s hm; unfold SpOk at *; omega⟩

theorem wOr_any (n : Nat) (w : World) (v : Bool) (hv : wantsOr n = v) : Calls Tryz.prog 110 #[.int .i64 (n : Int)] w fun e w' => e = .returned (.bool v) ∧ w = w' := by
  subst hv; exact or1_any n w
theorem wAnd_any (n : Nat) (w : World) (v : Bool) (hv : wantsAnd n = v) : Calls Tryz.prog 73 #[.int .i64 (n : Int)] w fun e w' => e = .returned (.bool v) ∧ w = w' := by
  subst hv
  have h := and1_any n w
  rwa [show ((n : Int) == 3) = wantsAnd n from by unfold wantsAnd; rw [Bool.eq_iff_iff]; simp; omega] at h
theorem wMinus_any (n : Nat) (w : World) (v : Bool) (hv : wantsMinus n = v) : Calls Tryz.prog 109 #[.int .i64 (n : Int)] w fun e w' => e = .returned (.bool v) ∧ w = w' := by
  subst hv
  have h := minus1_any n w
  rwa [show ((n : Int) == 1) = wantsMinus n from by unfold wantsMinus; rw [Bool.eq_iff_iff]; simp; omega] at h
theorem isSet_is (A : Option Addr) (c : Nat) (l : List Sp) (w : World) (v : Bool) (hv : setB l = v) (hs : SlS w w.heap.size A l) (hl : l.length ≤ 100000) :
    Calls Tryz.prog 84 #[.slice A l.length c] w fun e w' => e = .returned (.bool v) ∧ Below w.heap.size w w' := by
  subst hv; exact isSet_any A c l w hs hl

set_option maxRecDepth 100000 in
set_option maxHeartbeats 1000000 in
theorem chosenOr_in (m : Nat) (hm3 : Hid (3 ≤ m)) (A A' : Option Addr) (c c' : Nat) (a b : List Sp) (w : World) (hs : SlS w w.heap.size A a) (hs' : SlS w w.heap.size A' b) (hlc : a.length ≤ c) (hc : c ≤ maxLen) (hlc' : b.length ≤ c') (hc' : c' ≤ maxLen)
    (hl : 2 * a.length + 2 * b.length ≤ 20000) (hka : ∀ s ∈ a, SpOk s) (hkb : ∀ s ∈ b, SpOk s) :
    CallsIn Fence.wide m Tryz.prog 72 #[.slice A a.length c, .slice A' b.length c', .func (.func 110) #[] #[]] w (ChEnd w wantsOr a b) := by
  have HS := Lib.hid (And.intro hs hs')
  have HL := Lib.hid (And.intro (And.intro hlc hc) (And.intro hlc' hc'))
  have HK := Lib.hid (And.intro hka hkb)
  clear hs hs' hlc hc hlc' hc' hka hkb
  refine callsIn_of_wp_marks Tryz.func72 rfl trivial ?_ rfl
  simp only [Tryz.ntmps72, List.size_toArray, List.length_cons, List.length_nil, Nat.reduceAdd, Nat.reduceSub, Array.replicate_succ, Array.replicate_zero, List.push_toArray, List.append_toArray, List.nil_append, List.cons_append]
  have HB0 : Hid (Below w.heap.size w (w.alloc (.cells #[.func (.func 110) #[] #[]] 128))) := (Below.refl _ _).alloc (Nat.le_refl _) _
  have HF0 := Lib.hid (Boxed.new w 128 (.func (.func 110) #[] #[]))
  gi_wp2_with fail
  refine ⟨trivial, wide_deep _, ?_⟩
  refine (callsIn_wide.2 (isSet_is A c a _ _ rfl ((HS.out.1.next HB0.out (Nat.le_refl _)).more HB0.out.size) (by omega))).mono ?_
  rintro e w1 ⟨rfl, hb1⟩
  have HB1 := Lib.hid (HB0.out.trans (hb1.mono HB0.out.size))
  have HF1 := Lib.hid (show Boxed w1 _ _ _ from (hb1.block w.heap.size (by simp)).trans HF0.out)
  clear hb1
  cases hsa : setB a
  · have HN := Lib.hid (show (setB a && setB b) = false from by rw [hsa]; rfl)
    clear hsa
    gi_wp2
    refine ⟨trivial, ?_⟩
    gi_wp2
    exact ⟨_, results_tmp2 rfl _ _ _, .inr ⟨HN.out, rfl⟩, HB1.out⟩
  · have HSA := Lib.hid hsa
    clear hsa
    gi_wp2_with fail
    refine ⟨trivial, wide_deep _, ?_⟩
    refine (callsIn_wide.2 (isSet_is A' c' b _ _ rfl ((HS.out.2.next HB1.out (Nat.le_refl _)).more HB1.out.size) (by omega))).mono ?_
    rintro e w2 ⟨rfl, hb2⟩
    have HB2 := Lib.hid (HB1.out.trans (hb2.mono HB1.out.size))
    have HF2 := Lib.hid (show Boxed w2 _ _ _ from (hb2.block w.heap.size HF1.out.lt).trans HF1.out)
    clear hb2 HB1 HF1 HB0 HF0
    cases hsb : setB b
    · have HN := Lib.hid (show (setB a && setB b) = false from by rw [hsb, HSA.out]; rfl)
      clear hsb
      gi_wp2
      exact ⟨_, results_tmp2 rfl _ _ _, .inr ⟨HN.out, rfl⟩, HB2.out⟩
    · have HSB := Lib.hid hsb
      clear hsb
      gi_wp2_with fail
      refine ⟨trivial, wide_deep _, ?_⟩
      refine (callsIn_wide.2 (adderOf_any _ _)).mono ?_
      rintro e w3 ⟨rfl, rfl⟩
      gi_wp2_with fail
      refine ⟨trivial, wide_deep _, ?_⟩
      refine (callsIn_wide.2 (stoldOf_any _ _ _ _ _ _ _)).mono ?_
      rintro e w3 ⟨rfl, rfl⟩
      gi_wp2_with fail
      obtain ⟨W2, hW2⟩ : ∃ W2, (((((w2.alloc (.cells #[.slice none 0 0] 60)).alloc (.cells #[.pointer (some ⟨w2.heap.size, 0, none⟩)] 125)).alloc (.cells #[.func (.func 107) #[] #[.pointer (some ⟨w2.heap.size + 1, 0, none⟩)]] 123)).alloc (.cells #[.slice A a.length c] 60)).alloc (.cells #[.slice A' b.length c'] 60)) = W2 := ⟨_, rfl⟩
      have hz : W2.heap.size = w2.heap.size + 5 := by rw [← hW2]; simp
      have hbz := HB2.out.size
      have hfl := HF2.out.lt
      have hBw : Below w.heap.size w W2 := by rw [← hW2]; exact ((((HB2.out.alloc hbz _).alloc (by simp; omega) _).alloc (by simp; omega) _).alloc (by simp; omega) _).alloc (by simp; omega) _
      have hP : Boxed W2 w2.heap.size 60 (.slice none 0 0) := by rw [← hW2]; exact ((((Boxed.new _ _ _).alloc _).alloc _).alloc _).alloc _
      have hQ : Boxed W2 (w2.heap.size + 1) 125 (.pointer (some ⟨w2.heap.size, 0, none⟩)) := by
        rw [← hW2]
        have := Boxed.new (w2.alloc (.cells #[.slice none 0 0] 60)) 125 (.pointer (some ⟨w2.heap.size, 0, none⟩))
        simp only [World.size_alloc] at this
        exact ((this.alloc _).alloc _).alloc _
      have hR : Boxed W2 (w2.heap.size + 1 + 1) 123 (.func (.func 107) #[] #[.pointer (some ⟨w2.heap.size + 1, 0, none⟩)]) := by
        rw [← hW2]
        have := Boxed.new ((w2.alloc (.cells #[.slice none 0 0] 60)).alloc (.cells #[.pointer (some ⟨w2.heap.size, 0, none⟩)] 125)) 123 (.func (.func 107) #[] #[.pointer (some ⟨w2.heap.size + 1, 0, none⟩)])
        simp only [World.size_alloc] at this
        exact (this.alloc _).alloc _
      have hV1 : Boxed W2 (w2.heap.size + 1 + 1 + 1) 60 (.slice A a.length c) := by
        rw [← hW2]
        have := Boxed.new (((w2.alloc (.cells #[.slice none 0 0] 60)).alloc (.cells #[.pointer (some ⟨w2.heap.size, 0, none⟩)] 125)).alloc (.cells #[.func (.func 107) #[] #[.pointer (some ⟨w2.heap.size + 1, 0, none⟩)]] 123)) 60 (.slice A a.length c)
        simp only [World.size_alloc] at this
        exact this.alloc _
      have hV2 : Boxed W2 (w2.heap.size + 1 + 1 + 1 + 1) 60 (.slice A' b.length c') := by
        rw [← hW2]
        have := Boxed.new ((((w2.alloc (.cells #[.slice none 0 0] 60)).alloc (.cells #[.pointer (some ⟨w2.heap.size, 0, none⟩)] 125)).alloc (.cells #[.func (.func 107) #[] #[.pointer (some ⟨w2.heap.size + 1, 0, none⟩)]] 123)).alloc (.cells #[.slice A a.length c] 60)) 60 (.slice A' b.length c')
        simp only [World.size_alloc] at this
        exact this
      have hF : Boxed W2 w.heap.size 128 (.func (.func 110) #[] #[]) := by rw [← hW2]; exact ((((HF2.out.alloc _).alloc _).alloc _).alloc _).alloc _
      rw [hW2]
      clear hW2
      have hro : Fence.wide.round = none := rfl
      obtain ⟨⟨hlc, hc⟩, hlc', hc'⟩ := HL.out
      refine wpIn_rangeFunc_ownH hro (by have := hm3.out; omega) (gf := 127) (lb := #[.pointer (some ⟨w2.heap.size + 1 + 1 + 1, 0, none⟩), .pointer (some ⟨w2.heap.size + 1 + 1 + 1 + 1, 0, none⟩)]) rfl trivial (enters_of Tryz.func127 (by kernel_rfl) rfl)
        (stold_stops (m - 1) w.heap.size (w2.heap.size + 1 + 1 + 1) (w2.heap.size + 1 + 1 + 1 + 1) (2 * a.length + 2 * b.length) A A' c c' a b W2 (by omega) (by omega) (by omega) (HS.out.1.next hBw (Nat.le_refl _)) (HS.out.2.next hBw (Nat.le_refl _)) hlc hc hlc' hc' (live_of HSA.out HK.out.1) (live_of HSB.out HK.out.2) (Nat.le_refl _) hV1.cell hV2.cell)
        (fun h k => h.trans k) (fun W l o o' hl h h1 h2 => belowK_b (w := W2) (n₀ := w.heap.size) (by omega) W l o o' hl h h1 h2) (Below.refl _ _) (fun _ => rfl)
        (CMid w 110 w2.heap.size wantsOr (2 * a.length + 2 * b.length)) (fun _ _ _ => False) (by rw [hz]; exact cMid_own _ _ _ _ _ hfl) (fun _ _ _ _ _ h => h.elim)
        ⟨_, hP, ownS_nil _ _, hQ, hF, hR, hBw, hfl, by simp⟩
        (fun x a' W => ∃ g, SpBox W g x.1 ∧ a' = { tmps := #[.slice A a.length c, .slice A' b.length c', .func (.func 110) #[] #[], undef, undef, .pointer (some ⟨w.heap.size, 0, none⟩), .slice none 0 0, .int .i64 0, .pointer (some ⟨w2.heap.size, 0, none⟩), .pointer (some ⟨w2.heap.size + 1 + 1, 0, none⟩), .pointer (some ⟨g, 0, none⟩), .int .i64 (x.2 : Int), .slice A a.length c, .bool true, .bool false, .bool false, .slice A' b.length c', .bool true, .bool false, .bool false, .func (.func 107) #[] #[.pointer (some ⟨w2.heap.size + 1, 0, none⟩)], .slice A a.length c, .slice A' b.length c', .func (.func 127) #[] #[.pointer (some ⟨w2.heap.size + 1 + 1 + 1, 0, none⟩), .pointer (some ⟨w2.heap.size + 1 + 1 + 1 + 1, 0, none⟩)], .agg #[.int .i64 x.1.1, .int .i64 x.1.2], .int .i64 (x.2 : Int), undef, undef, undef, undef, undef, undef, undef], defers := [] })
        (fun x a' _ X Y row ⟨g, hg, e⟩ hgr hr => ⟨g, hg.kept hgr (fun r e => (hr r e).2), e⟩) ?assign ?body ?done ?stop
      case assign =>
        rintro l pre x W K hM hK
        gi_wp2
        exact hK _ _ (keepsFrom_below ((Below.refl _ W).alloc (Nat.le_refl _) _)) ((Below.refl _ W).alloc (by obtain ⟨_, _, _, _, _, _, h6, _⟩ := hM; exact h6.size) _) (hM.alloc _) ⟨W.heap.size, heap_alloc_new W _, rfl⟩
      case body =>
        rintro l pre ⟨⟨x0, x1⟩, who⟩ a' W hwl _ ⟨v, h1, h2, h3, h4, h5, h6, h7, h8⟩ ⟨g, hg, rfl⟩ hlt
        have b4 := h4.cell
        have b5 := h5.cell
        have k0 := hg.cell 0
        have k1 := hg.cell 1
        simp at k0 k1
        have HPK := Lib.hid (pickL_snoc wantsOr [] ((x0, x1), who) pre)
        have hpl := pickL_len wantsOr [] pre
        simp only [List.length_nil, Nat.zero_add] at hpl
        have H1 := Lib.hid h1
        have H2 := Lib.hid h2
        have H3 := Lib.hid h3
        have H4 := Lib.hid h4
        have H5 := Lib.hid h5
        have H6 := Lib.hid h6
        clear h1 h2 h3 h4 h5 h6 hg
        have hpl2 : (pre ++ [((x0, x1), who)]).length ≤ 2 * a.length + 2 * b.length := by rw [List.length_append, List.length_singleton]; omega
        cases hf : wantsOr who
        · have HPN : Hid (pickL wantsOr [] (pre ++ [((x0, x1), who)]) = pickL wantsOr [] pre) := by show _ = _; rw [HPK.out]; simp only [hf]; rfl
          have HW := Lib.hid (fun X => wOr_any who X false hf)
          clear hf
          gi_wp2_with fail
          refine ⟨trivial, wide_deep _, ?_⟩
          refine (callsIn_wide.2 (HW.out _)).mono ?_
          rintro e w9 ⟨rfl, rfl⟩
          gi_wp2
          exact ⟨KeepsFrom.refl _ _, Below.refl _ _, v, H1.out, (by rw [HPN.out]; exact H2.out), H3.out, H4.out, H5.out, H6.out, h7, hpl2⟩
        · have HPN : Hid (pickL wantsOr [] (pre ++ [((x0, x1), who)]) = addL (pickL wantsOr [] pre) (x0, x1)) := by show _ = _; rw [HPK.out]; simp only [hf]; rfl
          have HW := Lib.hid (fun X => wOr_any who X true hf)
          clear hf
          gi_wp2_with fail
          refine ⟨trivial, wide_deep _, ?_⟩
          refine (callsIn_wide.2 (HW.out _)).mono ?_
          rintro e w9 ⟨rfl, rfl⟩
          gi_wp2_with fail
          refine ⟨trivial, wide_deep _, ?_⟩
          refine (callsIn_wide.2 (add_any w.heap.size (w2.heap.size + 1) w2.heap.size (pickL wantsOr [] pre) v x0 x1 W H3.out H1.out H2.out H6.out.size (by omega))).mono ?_
          rintro e w9 ⟨rfl, hadd, v', hv', ho'⟩
          have HN := Lib.hid (show KeepsFrom W2.heap.size W w9 ∧ Below w.heap.size W w9 ∧ CMid w 110 w2.heap.size wantsOr (2 * a.length + 2 * b.length) (pre ++ [((x0, x1), who)]) w9 from
            ⟨(hadd.others H1.out H2.out).from _, hadd.below (by omega) H2.out H6.out.size, v', hv', (by rw [HPN.out]; exact ho'), hadd.boxed H3.out (by omega) (by decide) H2.out, hadd.boxed H4.out (by omega) (by decide) H2.out, hadd.boxed H5.out (by omega) (by decide) H2.out, H6.out.trans (hadd.below (by omega) H2.out H6.out.size), h7, hpl2⟩)
          clear hadd hv' ho' b4 b5 k0 k1
          gi_wp2
          exact HN.out
      case done =>
        rintro D ys W hD hys ⟨v, h1, h2, h3, h4, h5, h6, h7, h8⟩ hK
        obtain ⟨A9, c9, rfl, _, _, _⟩ := h2.sls
        have b0 := h1.cell
        have HE := Lib.hid (show ChEnd w wantsOr a b (.returned (.tuple #[.slice A9 (pickL wantsOr [] ys).length c9, .int .i64 0])) (W.putObj D (.deferred none)) from
          ⟨.inl ⟨HSA.out, HSB.out, pickL wantsOr [] ys, _, ⟨ys, hys, rfl⟩, by have := pickL_len wantsOr [] ys; simp only [List.length_nil, Nat.zero_add] at this; omega, rfl,
            h2.kept (grownBy_putObj' W D (.deferred none)) (fun r e => by injection e with e; subst e; exact ⟨_, hK, rfl⟩)⟩,
           h6.trans (belowK_b (w := W2) (n₀ := w.heap.size) (by omega) W D _ _ hD hK rfl rfl)⟩)
        clear h1 h2 h3 h4 h5 h6 h7 h8 hys
        gi_wp2
        refine ⟨by simp, .inl ⟨_, _, rfl, run_takeDeferred hK, ?_⟩⟩
        exact ⟨_, results_tmp2 rfl _ _ _, by exact HE.out⟩
      case stop =>
        rintro D cd pre W _ _ h _
        exact h.elim
set_option maxRecDepth 100000 in
set_option maxHeartbeats 1000000 in
theorem chosenAnd_in (m : Nat) (hm3 : Hid (3 ≤ m)) (A A' : Option Addr) (c c' : Nat) (a b : List Sp) (w : World) (hs : SlS w w.heap.size A a) (hs' : SlS w w.heap.size A' b) (hlc : a.length ≤ c) (hc : c ≤ maxLen) (hlc' : b.length ≤ c') (hc' : c' ≤ maxLen)
    (hl : 2 * a.length + 2 * b.length ≤ 20000) (hka : ∀ s ∈ a, SpOk s) (hkb : ∀ s ∈ b, SpOk s) :
    CallsIn Fence.wide m Tryz.prog 72 #[.slice A a.length c, .slice A' b.length c', .func (.func 73) #[] #[]] w (ChEnd w wantsAnd a b) := by
  have HS := Lib.hid (And.intro hs hs')
  have HL := Lib.hid (And.intro (And.intro hlc hc) (And.intro hlc' hc'))
  have HK := Lib.hid (And.intro hka hkb)
  clear hs hs' hlc hc hlc' hc' hka hkb
  refine callsIn_of_wp_marks Tryz.func72 rfl trivial ?_ rfl
  simp only [Tryz.ntmps72, List.size_toArray, List.length_cons, List.length_nil, Nat.reduceAdd, Nat.reduceSub, Array.replicate_succ, Array.replicate_zero, List.push_toArray, List.append_toArray, List.nil_append, List.cons_append]
  have HB0 : Hid (Below w.heap.size w (w.alloc (.cells #[.func (.func 73) #[] #[]] 128))) := (Below.refl _ _).alloc (Nat.le_refl _) _
  have HF0 := Lib.hid (Boxed.new w 128 (.func (.func 73) #[] #[]))
  gi_wp2_with fail
  refine ⟨trivial, wide_deep _, ?_⟩
  refine (callsIn_wide.2 (isSet_is A c a _ _ rfl ((HS.out.1.next HB0.out (Nat.le_refl _)).more HB0.out.size) (by omega))).mono ?_
  rintro e w1 ⟨rfl, hb1⟩
  have HB1 := Lib.hid (HB0.out.trans (hb1.mono HB0.out.size))
  have HF1 := Lib.hid (show Boxed w1 _ _ _ from (hb1.block w.heap.size (by simp)).trans HF0.out)
  clear hb1
  cases hsa : setB a
  · have HN := Lib.hid (show (setB a && setB b) = false from by rw [hsa]; rfl)
    clear hsa
    gi_wp2
    refine ⟨trivial, ?_⟩
    gi_wp2
    exact ⟨_, results_tmp2 rfl _ _ _, .inr ⟨HN.out, rfl⟩, HB1.out⟩
  · have HSA := Lib.hid hsa
    clear hsa
    gi_wp2_with fail
    refine ⟨trivial, wide_deep _, ?_⟩
    refine (callsIn_wide.2 (isSet_is A' c' b _ _ rfl ((HS.out.2.next HB1.out (Nat.le_refl _)).more HB1.out.size) (by omega))).mono ?_
    rintro e w2 ⟨rfl, hb2⟩
    have HB2 := Lib.hid (HB1.out.trans (hb2.mono HB1.out.size))
    have HF2 := Lib.hid (show Boxed w2 _ _ _ from (hb2.block w.heap.size HF1.out.lt).trans HF1.out)
    clear hb2 HB1 HF1 HB0 HF0
    cases hsb : setB b
    · have HN := Lib.hid (show (setB a && setB b) = false from by rw [hsb, HSA.out]; rfl)
      clear hsb
      gi_wp2
      exact ⟨_, results_tmp2 rfl _ _ _, .inr ⟨HN.out, rfl⟩, HB2.out⟩
    · have HSB := Lib.hid hsb
      clear hsb
      gi_wp2_with fail
      refine ⟨trivial, wide_deep _, ?_⟩
      refine (callsIn_wide.2 (adderOf_any _ _)).mono ?_
      rintro e w3 ⟨rfl, rfl⟩
      gi_wp2_with fail
      refine ⟨trivial, wide_deep _, ?_⟩
      refine (callsIn_wide.2 (stoldOf_any _ _ _ _ _ _ _)).mono ?_
      rintro e w3 ⟨rfl, rfl⟩
      gi_wp2_with fail
      obtain ⟨W2, hW2⟩ : ∃ W2, (((((w2.alloc (.cells #[.slice none 0 0] 60)).alloc (.cells #[.pointer (some ⟨w2.heap.size, 0, none⟩)] 125)).alloc (.cells #[.func (.func 107) #[] #[.pointer (some ⟨w2.heap.size + 1, 0, none⟩)]] 123)).alloc (.cells #[.slice A a.length c] 60)).alloc (.cells #[.slice A' b.length c'] 60)) = W2 := ⟨_, rfl⟩
      have hz : W2.heap.size = w2.heap.size + 5 := by rw [← hW2]; simp
      have hbz := HB2.out.size
      have hfl := HF2.out.lt
      have hBw : Below w.heap.size w W2 := by rw [← hW2]; exact ((((HB2.out.alloc hbz _).alloc (by simp; omega) _).alloc (by simp; omega) _).alloc (by simp; omega) _).alloc (by simp; omega) _
      have hP : Boxed W2 w2.heap.size 60 (.slice none 0 0) := by rw [← hW2]; exact ((((Boxed.new _ _ _).alloc _).alloc _).alloc _).alloc _
      have hQ : Boxed W2 (w2.heap.size + 1) 125 (.pointer (some ⟨w2.heap.size, 0, none⟩)) := by
        rw [← hW2]
        have := Boxed.new (w2.alloc (.cells #[.slice none 0 0] 60)) 125 (.pointer (some ⟨w2.heap.size, 0, none⟩))
        simp only [World.size_alloc] at this
        exact ((this.alloc _).alloc _).alloc _
      have hR : Boxed W2 (w2.heap.size + 1 + 1) 123 (.func (.func 107) #[] #[.pointer (some ⟨w2.heap.size + 1, 0, none⟩)]) := by
        rw [← hW2]
        have := Boxed.new ((w2.alloc (.cells #[.slice none 0 0] 60)).alloc (.cells #[.pointer (some ⟨w2.heap.size, 0, none⟩)] 125)) 123 (.func (.func 107) #[] #[.pointer (some ⟨w2.heap.size + 1, 0, none⟩)])
        simp only [World.size_alloc] at this
        exact (this.alloc _).alloc _
      have hV1 : Boxed W2 (w2.heap.size + 1 + 1 + 1) 60 (.slice A a.length c) := by
        rw [← hW2]
        have := Boxed.new (((w2.alloc (.cells #[.slice none 0 0] 60)).alloc (.cells #[.pointer (some ⟨w2.heap.size, 0, none⟩)] 125)).alloc (.cells #[.func (.func 107) #[] #[.pointer (some ⟨w2.heap.size + 1, 0, none⟩)]] 123)) 60 (.slice A a.length c)
        simp only [World.size_alloc] at this
        exact this.alloc _
      have hV2 : Boxed W2 (w2.heap.size + 1 + 1 + 1 + 1) 60 (.slice A' b.length c') := by
        rw [← hW2]
        have := Boxed.new ((((w2.alloc (.cells #[.slice none 0 0] 60)).alloc (.cells #[.pointer (some ⟨w2.heap.size, 0, none⟩)] 125)).alloc (.cells #[.func (.func 107) #[] #[.pointer (some ⟨w2.heap.size + 1, 0, none⟩)]] 123)).alloc (.cells #[.slice A a.length c] 60)) 60 (.slice A' b.length c')
        simp only [World.size_alloc] at this
        exact this
      have hF : Boxed W2 w.heap.size 128 (.func (.func 73) #[] #[]) := by rw [← hW2]; exact ((((HF2.out.alloc _).alloc _).alloc _).alloc _).alloc _
      rw [hW2]
      clear hW2
      have hro : Fence.wide.round = none := rfl
      obtain ⟨⟨hlc, hc⟩, hlc', hc'⟩ := HL.out
      refine wpIn_rangeFunc_ownH hro (by have := hm3.out; omega) (gf := 127) (lb := #[.pointer (some ⟨w2.heap.size + 1 + 1 + 1, 0, none⟩), .pointer (some ⟨w2.heap.size + 1 + 1 + 1 + 1, 0, none⟩)]) rfl trivial (enters_of Tryz.func127 (by kernel_rfl) rfl)
        (stold_stops (m - 1) w.heap.size (w2.heap.size + 1 + 1 + 1) (w2.heap.size + 1 + 1 + 1 + 1) (2 * a.length + 2 * b.length) A A' c c' a b W2 (by omega) (by omega) (by omega) (HS.out.1.next hBw (Nat.le_refl _)) (HS.out.2.next hBw (Nat.le_refl _)) hlc hc hlc' hc' (live_of HSA.out HK.out.1) (live_of HSB.out HK.out.2) (Nat.le_refl _) hV1.cell hV2.cell)
        (fun h k => h.trans k) (fun W l o o' hl h h1 h2 => belowK_b (w := W2) (n₀ := w.heap.size) (by omega) W l o o' hl h h1 h2) (Below.refl _ _) (fun _ => rfl)
        (CMid w 73 w2.heap.size wantsAnd (2 * a.length + 2 * b.length)) (fun _ _ _ => False) (by rw [hz]; exact cMid_own _ _ _ _ _ hfl) (fun _ _ _ _ _ h => h.elim)
        ⟨_, hP, ownS_nil _ _, hQ, hF, hR, hBw, hfl, by simp⟩
        (fun x a' W => ∃ g, SpBox W g x.1 ∧ a' = { tmps := #[.slice A a.length c, .slice A' b.length c', .func (.func 73) #[] #[], undef, undef, .pointer (some ⟨w.heap.size, 0, none⟩), .slice none 0 0, .int .i64 0, .pointer (some ⟨w2.heap.size, 0, none⟩), .pointer (some ⟨w2.heap.size + 1 + 1, 0, none⟩), .pointer (some ⟨g, 0, none⟩), .int .i64 (x.2 : Int), .slice A a.length c, .bool true, .bool false, .bool false, .slice A' b.length c', .bool true, .bool false, .bool false, .func (.func 107) #[] #[.pointer (some ⟨w2.heap.size + 1, 0, none⟩)], .slice A a.length c, .slice A' b.length c', .func (.func 127) #[] #[.pointer (some ⟨w2.heap.size + 1 + 1 + 1, 0, none⟩), .pointer (some ⟨w2.heap.size + 1 + 1 + 1 + 1, 0, none⟩)], .agg #[.int .i64 x.1.1, .int .i64 x.1.2], .int .i64 (x.2 : Int), undef, undef, undef, undef, undef, undef, undef], defers := [] })
        (fun x a' _ X Y row ⟨g, hg, e⟩ hgr hr => ⟨g, hg.kept hgr (fun r e => (hr r e).2), e⟩) ?assign ?body ?done ?stop
      case assign =>
        rintro l pre x W K hM hK
        gi_wp2
        exact hK _ _ (keepsFrom_below ((Below.refl _ W).alloc (Nat.le_refl _) _)) ((Below.refl _ W).alloc (by obtain ⟨_, _, _, _, _, _, h6, _⟩ := hM; exact h6.size) _) (hM.alloc _) ⟨W.heap.size, heap_alloc_new W _, rfl⟩
      case body =>
        rintro l pre ⟨⟨x0, x1⟩, who⟩ a' W hwl _ ⟨v, h1, h2, h3, h4, h5, h6, h7, h8⟩ ⟨g, hg, rfl⟩ hlt
        have b4 := h4.cell
        have b5 := h5.cell
        have k0 := hg.cell 0
        have k1 := hg.cell 1
        simp at k0 k1
        have HPK := Lib.hid (pickL_snoc wantsAnd [] ((x0, x1), who) pre)
        have hpl := pickL_len wantsAnd [] pre
        simp only [List.length_nil, Nat.zero_add] at hpl
        have H1 := Lib.hid h1
        have H2 := Lib.hid h2
        have H3 := Lib.hid h3
        have H4 := Lib.hid h4
        have H5 := Lib.hid h5
        have H6 := Lib.hid h6
        clear h1 h2 h3 h4 h5 h6 hg
        have hpl2 : (pre ++ [((x0, x1), who)]).length ≤ 2 * a.length + 2 * b.length := by rw [List.length_append, List.length_singleton]; omega
        cases hf : wantsAnd who
        · have HPN : Hid (pickL wantsAnd [] (pre ++ [((x0, x1), who)]) = pickL wantsAnd [] pre) := by show _ = _; rw [HPK.out]; simp only [hf]; rfl
          have HW := Lib.hid (fun X => wAnd_any who X false hf)
          clear hf
          gi_wp2_with fail
          refine ⟨trivial, wide_deep _, ?_⟩
          refine (callsIn_wide.2 (HW.out _)).mono ?_
          rintro e w9 ⟨rfl, rfl⟩
          gi_wp2
          exact ⟨KeepsFrom.refl _ _, Below.refl _ _, v, H1.out, (by rw [HPN.out]; exact H2.out), H3.out, H4.out, H5.out, H6.out, h7, hpl2⟩
        · have HPN : Hid (pickL wantsAnd [] (pre ++ [((x0, x1), who)]) = addL (pickL wantsAnd [] pre) (x0, x1)) := by show _ = _; rw [HPK.out]; simp only [hf]; rfl
          have HW := Lib.hid (fun X => wAnd_any who X true hf)
          clear hf
          gi_wp2_with fail
          refine ⟨trivial, wide_deep _, ?_⟩
          refine (callsIn_wide.2 (HW.out _)).mono ?_
          rintro e w9 ⟨rfl, rfl⟩
          gi_wp2_with fail
          refine ⟨trivial, wide_deep _, ?_⟩
          refine (callsIn_wide.2 (add_any w.heap.size (w2.heap.size + 1) w2.heap.size (pickL wantsAnd [] pre) v x0 x1 W H3.out H1.out H2.out H6.out.size (by omega))).mono ?_
          rintro e w9 ⟨rfl, hadd, v', hv', ho'⟩
          have HN := Lib.hid (show KeepsFrom W2.heap.size W w9 ∧ Below w.heap.size W w9 ∧ CMid w 73 w2.heap.size wantsAnd (2 * a.length + 2 * b.length) (pre ++ [((x0, x1), who)]) w9 from
            ⟨(hadd.others H1.out H2.out).from _, hadd.below (by omega) H2.out H6.out.size, v', hv', (by rw [HPN.out]; exact ho'), hadd.boxed H3.out (by omega) (by decide) H2.out, hadd.boxed H4.out (by omega) (by decide) H2.out, hadd.boxed H5.out (by omega) (by decide) H2.out, H6.out.trans (hadd.below (by omega) H2.out H6.out.size), h7, hpl2⟩)
          clear hadd hv' ho' b4 b5 k0 k1
          gi_wp2
          exact HN.out
      case done =>
        rintro D ys W hD hys ⟨v, h1, h2, h3, h4, h5, h6, h7, h8⟩ hK
        obtain ⟨A9, c9, rfl, _, _, _⟩ := h2.sls
        have b0 := h1.cell
        have HE := Lib.hid (show ChEnd w wantsAnd a b (.returned (.tuple #[.slice A9 (pickL wantsAnd [] ys).length c9, .int .i64 0])) (W.putObj D (.deferred none)) from
          ⟨.inl ⟨HSA.out, HSB.out, pickL wantsAnd [] ys, _, ⟨ys, hys, rfl⟩, by have := pickL_len wantsAnd [] ys; simp only [List.length_nil, Nat.zero_add] at this; omega, rfl,
            h2.kept (grownBy_putObj' W D (.deferred none)) (fun r e => by injection e with e; subst e; exact ⟨_, hK, rfl⟩)⟩,
           h6.trans (belowK_b (w := W2) (n₀ := w.heap.size) (by omega) W D _ _ hD hK rfl rfl)⟩)
        clear h1 h2 h3 h4 h5 h6 h7 h8 hys
        gi_wp2
        refine ⟨by simp, .inl ⟨_, _, rfl, run_takeDeferred hK, ?_⟩⟩
        exact ⟨_, results_tmp2 rfl _ _ _, by exact HE.out⟩
      case stop =>
        rintro D cd pre W _ _ h _
        exact h.elim
set_option maxRecDepth 100000 in
set_option maxHeartbeats 1000000 in
theorem chosenMinus_in (m : Nat) (hm3 : Hid (3 ≤ m)) (A A' : Option Addr) (c c' : Nat) (a b : List Sp) (w : World) (hs : SlS w w.heap.size A a) (hs' : SlS w w.heap.size A' b) (hlc : a.length ≤ c) (hc : c ≤ maxLen) (hlc' : b.length ≤ c') (hc' : c' ≤ maxLen)
    (hl : 2 * a.length + 2 * b.length ≤ 20000) (hka : ∀ s ∈ a, SpOk s) (hkb : ∀ s ∈ b, SpOk s) :
    CallsIn Fence.wide m Tryz.prog 72 #[.slice A a.length c, .slice A' b.length c', .func (.func 109) #[] #[]] w (ChEnd w wantsMinus a b) := by
  have HS := Lib.hid (And.intro hs hs')
  have HL := Lib.hid (And.intro (And.intro hlc hc) (And.intro hlc' hc'))
  have HK := Lib.hid (And.intro hka hkb)
  clear hs hs' hlc hc hlc' hc' hka hkb
  refine callsIn_of_wp_marks Tryz.func72 rfl trivial ?_ rfl
  simp only [Tryz.ntmps72, List.size_toArray, List.length_cons, List.length_nil, Nat.reduceAdd, Nat.reduceSub, Array.replicate_succ, Array.replicate_zero, List.push_toArray, List.append_toArray, List.nil_append, List.cons_append]
  have HB0 : Hid (Below w.heap.size w (w.alloc (.cells #[.func (.func 109) #[] #[]] 128))) := (Below.refl _ _).alloc (Nat.le_refl _) _
  have HF0 := Lib.hid (Boxed.new w 128 (.func (.func 109) #[] #[]))
  gi_wp2_with fail
  refine ⟨trivial, wide_deep _, ?_⟩
  refine (callsIn_wide.2 (isSet_is A c a _ _ rfl ((HS.out.1.next HB0.out (Nat.le_refl _)).more HB0.out.size) (by omega))).mono ?_
  rintro e w1 ⟨rfl, hb1⟩
  have HB1 := Lib.hid (HB0.out.trans (hb1.mono HB0.out.size))
  have HF1 := Lib.hid (show Boxed w1 _ _ _ from (hb1.block w.heap.size (by simp)).trans HF0.out)
  clear hb1
  cases hsa : setB a
  · have HN := Lib.hid (show (setB a && setB b) = false from by rw [hsa]; rfl)
    clear hsa
    gi_wp2
    refine ⟨trivial, ?_⟩
    gi_wp2
    exact ⟨_, results_tmp2 rfl _ _ _, .inr ⟨HN.out, rfl⟩, HB1.out⟩
  · have HSA := Lib.hid hsa
    clear hsa
    gi_wp2_with fail
    refine ⟨trivial, wide_deep _, ?_⟩
    refine (callsIn_wide.2 (isSet_is A' c' b _ _ rfl ((HS.out.2.next HB1.out (Nat.le_refl _)).more HB1.out.size) (by omega))).mono ?_
    rintro e w2 ⟨rfl, hb2⟩
    have HB2 := Lib.hid (HB1.out.trans (hb2.mono HB1.out.size))
    have HF2 := Lib.hid (show Boxed w2 _ _ _ from (hb2.block w.heap.size HF1.out.lt).trans HF1.out)
    clear hb2 HB1 HF1 HB0 HF0
    cases hsb : setB b
    · have HN := Lib.hid (show (setB a && setB b) = false from by rw [hsb, HSA.out]; rfl)
      clear hsb
      gi_wp2
      exact ⟨_, results_tmp2 rfl _ _ _, .inr ⟨HN.out, rfl⟩, HB2.out⟩
    · have HSB := Lib.hid hsb
      clear hsb
      gi_wp2_with fail
      refine ⟨trivial, wide_deep _, ?_⟩
      refine (callsIn_wide.2 (adderOf_any _ _)).mono ?_
      rintro e w3 ⟨rfl, rfl⟩
      gi_wp2_with fail
      refine ⟨trivial, wide_deep _, ?_⟩
      refine (callsIn_wide.2 (stoldOf_any _ _ _ _ _ _ _)).mono ?_
      rintro e w3 ⟨rfl, rfl⟩
      gi_wp2_with fail
      obtain ⟨W2, hW2⟩ : ∃ W2, (((((w2.alloc (.cells #[.slice none 0 0] 60)).alloc (.cells #[.pointer (some ⟨w2.heap.size, 0, none⟩)] 125)).alloc (.cells #[.func (.func 107) #[] #[.pointer (some ⟨w2.heap.size + 1, 0, none⟩)]] 123)).alloc (.cells #[.slice A a.length c] 60)).alloc (.cells #[.slice A' b.length c'] 60)) = W2 := ⟨_, rfl⟩
      have hz : W2.heap.size = w2.heap.size + 5 := by rw [← hW2]; simp
      have hbz := HB2.out.size
      have hfl := HF2.out.lt
      have hBw : Below w.heap.size w W2 := by rw [← hW2]; exact ((((HB2.out.alloc hbz _).alloc (by simp; omega) _).alloc (by simp; omega) _).alloc (by simp; omega) _).alloc (by simp; omega) _
      have hP : Boxed W2 w2.heap.size 60 (.slice none 0 0) := by rw [← hW2]; exact ((((Boxed.new _ _ _).alloc _).alloc _).alloc _).alloc _
      have hQ : Boxed W2 (w2.heap.size + 1) 125 (.pointer (some ⟨w2.heap.size, 0, none⟩)) := by
        rw [← hW2]
        have := Boxed.new (w2.alloc (.cells #[.slice none 0 0] 60)) 125 (.pointer (some ⟨w2.heap.size, 0, none⟩))
        simp only [World.size_alloc] at this
        exact ((this.alloc _).alloc _).alloc _
      have hR : Boxed W2 (w2.heap.size + 1 + 1) 123 (.func (.func 107) #[] #[.pointer (some ⟨w2.heap.size + 1, 0, none⟩)]) := by
        rw [← hW2]
        have := Boxed.new ((w2.alloc (.cells #[.slice none 0 0] 60)).alloc (.cells #[.pointer (some ⟨w2.heap.size, 0, none⟩)] 125)) 123 (.func (.func 107) #[] #[.pointer (some ⟨w2.heap.size + 1, 0, none⟩)])
        simp only [World.size_alloc] at this
        exact (this.alloc _).alloc _
      have hV1 : Boxed W2 (w2.heap.size + 1 + 1 + 1) 60 (.slice A a.length c) := by
        rw [← hW2]
        have := Boxed.new (((w2.alloc (.cells #[.slice none 0 0] 60)).alloc (.cells #[.pointer (some ⟨w2.heap.size, 0, none⟩)] 125)).alloc (.cells #[.func (.func 107) #[] #[.pointer (some ⟨w2.heap.size + 1, 0, none⟩)]] 123)) 60 (.slice A a.length c)
        simp only [World.size_alloc] at this
        exact this.alloc _
      have hV2 : Boxed W2 (w2.heap.size + 1 + 1 + 1 + 1) 60 (.slice A' b.length c') := by
        rw [← hW2]
        have := Boxed.new ((((w2.alloc (.cells #[.slice none 0 0] 60)).alloc (.cells #[.pointer (some ⟨w2.heap.size, 0, none⟩)] 125)).alloc (.cells #[.func (.func 107) #[] #[.pointer (some ⟨w2.heap.size + 1, 0, none⟩)]] 123)).alloc (.cells #[.slice A a.length c] 60)) 60 (.slice A' b.length c')
        simp only [World.size_alloc] at this
        exact this
      have hF : Boxed W2 w.heap.size 128 (.func (.func 109) #[] #[]) := by rw [← hW2]; exact ((((HF2.out.alloc _).alloc _).alloc _).alloc _).alloc _
      rw [hW2]
      clear hW2
      have hro : Fence.wide.round = none := rfl
      obtain ⟨⟨hlc, hc⟩, hlc', hc'⟩ := HL.out
      refine wpIn_rangeFunc_ownH hro (by have := hm3.out; omega) (gf := 127) (lb := #[.pointer (some ⟨w2.heap.size + 1 + 1 + 1, 0, none⟩), .pointer (some ⟨w2.heap.size + 1 + 1 + 1 + 1, 0, none⟩)]) rfl trivial (enters_of Tryz.func127 (by kernel_rfl) rfl)
        (stold_stops (m - 1) w.heap.size (w2.heap.size + 1 + 1 + 1) (w2.heap.size + 1 + 1 + 1 + 1) (2 * a.length + 2 * b.length) A A' c c' a b W2 (by omega) (by omega) (by omega) (HS.out.1.next hBw (Nat.le_refl _)) (HS.out.2.next hBw (Nat.le_refl _)) hlc hc hlc' hc' (live_of HSA.out HK.out.1) (live_of HSB.out HK.out.2) (Nat.le_refl _) hV1.cell hV2.cell)
        (fun h k => h.trans k) (fun W l o o' hl h h1 h2 => belowK_b (w := W2) (n₀ := w.heap.size) (by omega) W l o o' hl h h1 h2) (Below.refl _ _) (fun _ => rfl)
        (CMid w 109 w2.heap.size wantsMinus (2 * a.length + 2 * b.length)) (fun _ _ _ => False) (by rw [hz]; exact cMid_own _ _ _ _ _ hfl) (fun _ _ _ _ _ h => h.elim)
        ⟨_, hP, ownS_nil _ _, hQ, hF, hR, hBw, hfl, by simp⟩
        (fun x a' W => ∃ g, SpBox W g x.1 ∧ a' = { tmps := #[.slice A a.length c, .slice A' b.length c', .func (.func 109) #[] #[], undef, undef, .pointer (some ⟨w.heap.size, 0, none⟩), .slice none 0 0, .int .i64 0, .pointer (some ⟨w2.heap.size, 0, none⟩), .pointer (some ⟨w2.heap.size + 1 + 1, 0, none⟩), .pointer (some ⟨g, 0, none⟩), .int .i64 (x.2 : Int), .slice A a.length c, .bool true, .bool false, .bool false, .slice A' b.length c', .bool true, .bool false, .bool false, .func (.func 107) #[] #[.pointer (some ⟨w2.heap.size + 1, 0, none⟩)], .slice A a.length c, .slice A' b.length c', .func (.func 127) #[] #[.pointer (some ⟨w2.heap.size + 1 + 1 + 1, 0, none⟩), .pointer (some ⟨w2.heap.size + 1 + 1 + 1 + 1, 0, none⟩)], .agg #[.int .i64 x.1.1, .int .i64 x.1.2], .int .i64 (x.2 : Int), undef, undef, undef, undef, undef, undef, undef], defers := [] })
        (fun x a' _ X Y row ⟨g, hg, e⟩ hgr hr => ⟨g, hg.kept hgr (fun r e => (hr r e).2), e⟩) ?assign ?body ?done ?stop
      case assign =>
        rintro l pre x W K hM hK
        gi_wp2
        exact hK _ _ (keepsFrom_below ((Below.refl _ W).alloc (Nat.le_refl _) _)) ((Below.refl _ W).alloc (by obtain ⟨_, _, _, _, _, _, h6, _⟩ := hM; exact h6.size) _) (hM.alloc _) ⟨W.heap.size, heap_alloc_new W _, rfl⟩
      case body =>
        rintro l pre ⟨⟨x0, x1⟩, who⟩ a' W hwl _ ⟨v, h1, h2, h3, h4, h5, h6, h7, h8⟩ ⟨g, hg, rfl⟩ hlt
        have b4 := h4.cell
        have b5 := h5.cell
        have k0 := hg.cell 0
        have k1 := hg.cell 1
        simp at k0 k1
        have HPK := Lib.hid (pickL_snoc wantsMinus [] ((x0, x1), who) pre)
        have hpl := pickL_len wantsMinus [] pre
        simp only [List.length_nil, Nat.zero_add] at hpl
        have H1 := Lib.hid h1
        have H2 := Lib.hid h2
        have H3 := Lib.hid h3
        have H4 := Lib.hid h4
        have H5 := Lib.hid h5
        have H6 := Lib.hid h6
        clear h1 h2 h3 h4 h5 h6 hg
        have hpl2 : (pre ++ [((x0, x1), who)]).length ≤ 2 * a.length + 2 * b.length := by rw [List.length_append, List.length_singleton]; omega
        cases hf : wantsMinus who
        · have HPN : Hid (pickL wantsMinus [] (pre ++ [((x0, x1), who)]) = pickL wantsMinus [] pre) := by show _ = _; rw [HPK.out]; simp only [hf]; rfl
          have HW := Lib.hid (fun X => wMinus_any who X false hf)
          clear hf
          gi_wp2_with fail
          refine ⟨trivial, wide_deep _, ?_⟩
          refine (callsIn_wide.2 (HW.out _)).mono ?_
          rintro e w9 ⟨rfl, rfl⟩
          gi_wp2
          exact ⟨KeepsFrom.refl _ _, Below.refl _ _, v, H1.out, (by rw [HPN.out]; exact H2.out), H3.out, H4.out, H5.out, H6.out, h7, hpl2⟩
        · have HPN : Hid (pickL wantsMinus [] (pre ++ [((x0, x1), who)]) = addL (pickL wantsMinus [] pre) (x0, x1)) := by show _ = _; rw [HPK.out]; simp only [hf]; rfl
          have HW := Lib.hid (fun X => wMinus_any who X true hf)
          clear hf
          gi_wp2_with fail
          refine ⟨trivial, wide_deep _, ?_⟩
          refine (callsIn_wide.2 (HW.out _)).mono ?_
          rintro e w9 ⟨rfl, rfl⟩
          gi_wp2_with fail
          refine ⟨trivial, wide_deep _, ?_⟩
          refine (callsIn_wide.2 (add_any w.heap.size (w2.heap.size + 1) w2.heap.size (pickL wantsMinus [] pre) v x0 x1 W H3.out H1.out H2.out H6.out.size (by omega))).mono ?_
          rintro e w9 ⟨rfl, hadd, v', hv', ho'⟩
          have HN := Lib.hid (show KeepsFrom W2.heap.size W w9 ∧ Below w.heap.size W w9 ∧ CMid w 109 w2.heap.size wantsMinus (2 * a.length + 2 * b.length) (pre ++ [((x0, x1), who)]) w9 from
            ⟨(hadd.others H1.out H2.out).from _, hadd.below (by omega) H2.out H6.out.size, v', hv', (by rw [HPN.out]; exact ho'), hadd.boxed H3.out (by omega) (by decide) H2.out, hadd.boxed H4.out (by omega) (by decide) H2.out, hadd.boxed H5.out (by omega) (by decide) H2.out, H6.out.trans (hadd.below (by omega) H2.out H6.out.size), h7, hpl2⟩)
          clear hadd hv' ho' b4 b5 k0 k1
          gi_wp2
          exact HN.out
      case done =>
        rintro D ys W hD hys ⟨v, h1, h2, h3, h4, h5, h6, h7, h8⟩ hK
        obtain ⟨A9, c9, rfl, _, _, _⟩ := h2.sls
        have b0 := h1.cell
        have HE := Lib.hid (show ChEnd w wantsMinus a b (.returned (.tuple #[.slice A9 (pickL wantsMinus [] ys).length c9, .int .i64 0])) (W.putObj D (.deferred none)) from
          ⟨.inl ⟨HSA.out, HSB.out, pickL wantsMinus [] ys, _, ⟨ys, hys, rfl⟩, by have := pickL_len wantsMinus [] ys; simp only [List.length_nil, Nat.zero_add] at this; omega, rfl,
            h2.kept (grownBy_putObj' W D (.deferred none)) (fun r e => by injection e with e; subst e; exact ⟨_, hK, rfl⟩)⟩,
           h6.trans (belowK_b (w := W2) (n₀ := w.heap.size) (by omega) W D _ _ hD hK rfl rfl)⟩)
        clear h1 h2 h3 h4 h5 h6 h7 h8 hys
        gi_wp2
        refine ⟨by simp, .inl ⟨_, _, rfl, run_takeDeferred hK, ?_⟩⟩
        exact ⟨_, results_tmp2 rfl _ _ _, by exact HE.out⟩
      case stop =>
        rintro D cd pre W _ _ h _
        exact h.elim
set_option maxHeartbeats 400000 in
theorem spanOr_any (A A' : Option Addr) (c c' : Nat) (a b : List Sp) (w : World) (hs : SlS w w.heap.size A a) (hs' : SlS w w.heap.size A' b) (hlc : a.length ≤ c) (hc : c ≤ maxLen) (hlc' : b.length ≤ c') (hc' : c' ≤ maxLen)
    (hl : 2 * a.length + 2 * b.length ≤ 20000) (hka : ∀ s ∈ a, SpOk s) (hkb : ∀ s ∈ b, SpOk s) :
    Calls Tryz.prog 75 #[.slice A a.length c, .slice A' b.length c'] w (ChEnd w wantsOr a b) := by
  have hch := (callsIn_wide (n := 9)).1 (chosenOr_in 9 (Nat.le_of_ble_eq_true rfl) A A' c c' a b w hs hs' hlc hc hlc' hc' hl hka hkb)
  have HC := Lib.hid hch
  clear hch hs hs' hlc hc hlc' hc' hl hka hkb
  go_enter Tryz.func75, Tryz.ntmps75
  go_wp2_with fail
  refine HC.out.mono ?_
  rintro e W' ⟨⟨h1, h2, l, v, h3, h4, rfl, h5⟩ | ⟨h1, rfl⟩, hb⟩
  · have HE := Lib.hid (show ChEnd w wantsOr a b _ W' from ⟨.inl ⟨h1, h2, l, v, h3, h4, rfl, h5⟩, hb⟩)
    clear h1 h2 h3 h4 h5 hb
    go_wp2
    go_ret2
    exact HE.out
  · have HE := Lib.hid (show ChEnd w wantsOr a b _ W' from ⟨.inr ⟨h1, rfl⟩, hb⟩)
    clear h1 hb
    go_wp2
    go_ret2
    exact HE.out
set_option maxHeartbeats 400000 in
theorem spanAnd_any (A A' : Option Addr) (c c' : Nat) (a b : List Sp) (w : World) (hs : SlS w w.heap.size A a) (hs' : SlS w w.heap.size A' b) (hlc : a.length ≤ c) (hc : c ≤ maxLen) (hlc' : b.length ≤ c') (hc' : c' ≤ maxLen)
    (hl : 2 * a.length + 2 * b.length ≤ 20000) (hka : ∀ s ∈ a, SpOk s) (hkb : ∀ s ∈ b, SpOk s) :
    Calls Tryz.prog 44 #[.slice A a.length c, .slice A' b.length c'] w (ChEnd w wantsAnd a b) := by
  have hch := (callsIn_wide (n := 9)).1 (chosenAnd_in 9 (Nat.le_of_ble_eq_true rfl) A A' c c' a b w hs hs' hlc hc hlc' hc' hl hka hkb)
  have HC := Lib.hid hch
  clear hch hs hs' hlc hc hlc' hc' hl hka hkb
  go_enter Tryz.func44, Tryz.ntmps44
  go_wp2_with fail
  refine HC.out.mono ?_
  rintro e W' ⟨⟨h1, h2, l, v, h3, h4, rfl, h5⟩ | ⟨h1, rfl⟩, hb⟩
  · have HE := Lib.hid (show ChEnd w wantsAnd a b _ W' from ⟨.inl ⟨h1, h2, l, v, h3, h4, rfl, h5⟩, hb⟩)
    clear h1 h2 h3 h4 h5 hb
    go_wp2
    go_ret2
    exact HE.out
  · have HE := Lib.hid (show ChEnd w wantsAnd a b _ W' from ⟨.inr ⟨h1, rfl⟩, hb⟩)
    clear h1 hb
    go_wp2
    go_ret2
    exact HE.out
set_option maxHeartbeats 400000 in
theorem spanMinus_any (A A' : Option Addr) (c c' : Nat) (a b : List Sp) (w : World) (hs : SlS w w.heap.size A a) (hs' : SlS w w.heap.size A' b) (hlc : a.length ≤ c) (hc : c ≤ maxLen) (hlc' : b.length ≤ c') (hc' : c' ≤ maxLen)
    (hl : 2 * a.length + 2 * b.length ≤ 20000) (hka : ∀ s ∈ a, SpOk s) (hkb : ∀ s ∈ b, SpOk s) :
    Calls Tryz.prog 74 #[.slice A a.length c, .slice A' b.length c'] w (ChEnd w wantsMinus a b) := by
  have hch := (callsIn_wide (n := 9)).1 (chosenMinus_in 9 (Nat.le_of_ble_eq_true rfl) A A' c c' a b w hs hs' hlc hc hlc' hc' hl hka hkb)
  have HC := Lib.hid hch
  clear hch hs hs' hlc hc hlc' hc' hl hka hkb
  go_enter Tryz.func74, Tryz.ntmps74
  go_wp2_with fail
  refine HC.out.mono ?_
  rintro e W' ⟨⟨h1, h2, l, v, h3, h4, rfl, h5⟩ | ⟨h1, rfl⟩, hb⟩
  · have HE := Lib.hid (show ChEnd w wantsMinus a b _ W' from ⟨.inl ⟨h1, h2, l, v, h3, h4, rfl, h5⟩, hb⟩)
    clear h1 h2 h3 h4 h5 hb
    go_wp2
    go_ret2
    exact HE.out
  · have HE := Lib.hid (show ChEnd w wantsMinus a b _ W' from ⟨.inr ⟨h1, rfl⟩, hb⟩)
    clear h1 hb
    go_wp2
    go_ret2
    exact HE.out
end Go.Proofs.YthdjlaombbeagaaGreat
