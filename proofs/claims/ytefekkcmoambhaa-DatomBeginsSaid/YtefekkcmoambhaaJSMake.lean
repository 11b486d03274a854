import Derived.Laws.EntriesVeiled
import Derived.Test.YtefekkcmoambhaaJSToldS
import Derived.Test.YtefekkcmoambhaaJSAdd
import Derived.Test.YtefekkcmoambhaaJOBytes
import Derived.Shelf.SlSortCmp.NoneTotal
import Derived.Test.YtefekkcmoambhaaJSorts
import Derived.Test.YtefekkcmoambhaaJOWords
/-
  CONTRACTS: chosen; Or, And, Minus.
-/
namespace Go.Proofs.Ytefekkcmoambhaa
open Go.RowKit Go.Shelf
attribute [local go_sem] Oper.semAt_some

def SpBox (W : World) (g : Nat) (s : Sp) : Prop := W.heap[g]? = some (.cells #[.int .i64 s.1, .int .i64 s.2] 74 (0, 0))
theorem SpBox.cell {W : World} {g : Nat} {s : Sp} (h : SpBox W g s) (j : Nat) : W.cell? ⟨g, j, none⟩ = (#[Value.int .i64 s.1, .int .i64 s.2])[j]? := by unfold SpBox at h; simp [World.cell?, h]
theorem SpBox.kept {W W' : World} {g : Nat} {s : Sp} {row : Option Nat} (h : SpBox W g s) (hg : W.grownBy W' row) (hr : ∀ r, row = some r → ∃ o : Obj, W.heap[r]? = some o ∧ o.isCells = false) : SpBox W' g s := by
  refine (hg.block g (Array.getElem?_eq_some_iff.1 h).1 fun e => ?_).trans h
  obtain ⟨o, ho, hc⟩ := hr g e.symm
  rw [show W.heap[g]? = _ from h] at ho
  cases ho
  simp [Obj.isCells] at hc
/-- what stands behind some rounds: the set so far, and the boxes -/
def CMid (w : World) (F n1 : Nat) (f : Nat → Bool) (N : Nat) (pre : List (Sp × Nat)) (W : World) : Prop :=
  ∃ v, Boxed W n1 28 v ∧ OwnS W w.heap.size v (pickL f [] pre) ∧ Boxed W (n1 + 1) 84 (.pointer (some ⟨n1, 0, none⟩)) ∧ Boxed W w.heap.size 88 (.func (.func F) #[] #[]) ∧
    Boxed W (n1 + 1 + 1) 82 (.func (.func 96) #[] #[.pointer (some ⟨n1 + 1, 0, none⟩)]) ∧ Below w.heap.size w W ∧ w.heap.size < n1 ∧ pre.length ≤ N
theorem cMid_own (w : World) (F n1 : Nat) (f : Nat → Bool) (N : Nat) (h1 : w.heap.size < n1) : OwnFrom (n1 + 5) (CMid w F n1 f N) := fun pre X Y row ⟨v, g1, g2, g3, g4, g5, g6, g7, g8⟩ hg hr => by
  have hne : ∀ b, b < n1 + 5 → some b ≠ row := fun b hb e => by have := (hr b e.symm).1; omega
  exact ⟨v, g1.kept hg (hne _ (by omega)), g2.kept hg (fun r e => (hr r e).2), g3.kept hg (hne _ (by omega)), g4.kept hg (hne _ (by omega)), g5.kept hg (hne _ (by omega)), g6.grown hg g6.size (fun j ej => by have := (hr j ej).1; omega), g7, g8⟩
theorem CMid.alloc {w : World} {F n1 : Nat} {f : Nat → Bool} {N : Nat} {pre : List (Sp × Nat)} {W : World} (h : CMid w F n1 f N pre W) (o : Obj) : CMid w F n1 f N pre (W.alloc o) := by
  obtain ⟨v, g1, g2, g3, g4, g5, g6, g7, g8⟩ := h
  exact ⟨v, g1.alloc _, g2.alloc _, g3.alloc _, g4.alloc _, g5.alloc _, g6.alloc g6.size _, g7, g8⟩
def chosenL (f : Nat → Bool) (a b l : List Sp) : Prop := ∃ r, Told a b minT r ∧ l = pickL f [] r
/-- What choosing answers. -/
def ChEnd (W : World) (f : Nat → Bool) (a b : List Sp) (e : Ending) (W' : World) : Prop :=
  ((setB a = true ∧ setB b = true ∧ ∃ l v, chosenL f a b l ∧ l.length ≤ 2 * a.length + 2 * b.length ∧ e = .returned (.tuple #[v, .int .i64 0]) ∧ OwnS W' W.heap.size v l) ∨
   ((setB a && setB b) = false ∧ e = .returned (.tuple #[.slice none 0 0, .int .i64 30]))) ∧ Below W.heap.size W W'
theorem live_of {l : List Sp} (h : setB l = true) (hk : ∀ s ∈ l, SpOk s) : Live l minT := by
  have hs : SetL l := of_decide_eq_true h
  exact ⟨hs, fun s hm => by have := hk s hm; have := hs.2 s hm; unfold SpOk at *; omega⟩

theorem wOr_any (n : Nat) (w : World) (v : Bool) (hv : wantsOr n = v) : Calls Try.prog 60 #[.int .i64 (n : Int)] w fun e w' => e = .returned (.bool v) ∧ w = w' := by
  subst hv; exact or1_any n w
theorem wAnd_any (n : Nat) (w : World) (v : Bool) (hv : wantsAnd n = v) : Calls Try.prog 61 #[.int .i64 (n : Int)] w fun e w' => e = .returned (.bool v) ∧ w = w' := by
  subst hv
  have h := and1_any n w
  rwa [show ((n : Int) == 3) = wantsAnd n from by unfold wantsAnd; rw [Bool.eq_iff_iff]; simp; omega] at h
theorem wMinus_any (n : Nat) (w : World) (v : Bool) (hv : wantsMinus n = v) : Calls Try.prog 62 #[.int .i64 (n : Int)] w fun e w' => e = .returned (.bool v) ∧ w = w' := by
  subst hv
  have h := minus1_any n w
  rwa [show ((n : Int) == 1) = wantsMinus n from by unfold wantsMinus; rw [Bool.eq_iff_iff]; simp; omega] at h
theorem isSet_is (A : Option Addr) (c : Nat) (l : List Sp) (w : World) (v : Bool) (hv : setB l = v) (hs : SlS w w.heap.size A l) (hl : l.length ≤ 100000) :
    Calls Try.prog 63 #[.slice A l.length c] w fun e w' => e = .returned (.bool v) ∧ Below w.heap.size w w' := by
  subst hv; exact isSet_any A c l w hs hl

set_option maxRecDepth 100000 in
set_option maxHeartbeats 1000000 in
theorem chosenOr_in (m : Nat) (hm3 : Hid (3 ≤ m)) (A A' : Option Addr) (c c' : Nat) (a b : List Sp) (w : World) (hs : SlS w w.heap.size A a) (hs' : SlS w w.heap.size A' b) (hlc : a.length ≤ c) (hc : c ≤ maxLen) (hlc' : b.length ≤ c') (hc' : c' ≤ maxLen)
    (hl : 2 * a.length + 2 * b.length ≤ 1000) (hka : ∀ s ∈ a, SpOk s) (hkb : ∀ s ∈ b, SpOk s) :
    CallsIn Fence.wide m Try.prog 59 #[.slice A a.length c, .slice A' b.length c', .func (.func 60) #[] #[]] w (ChEnd w wantsOr a b) := by
  have HS := Lib.hid (And.intro hs hs')
  have HL := Lib.hid (And.intro (And.intro hlc hc) (And.intro hlc' hc'))
  have HK := Lib.hid (And.intro hka hkb)
  clear hs hs' hlc hc hlc' hc' hka hkb
  refine callsIn_of_wp_marks Try.func59 rfl trivial ?_ rfl
  simp only [Try.ntmps59, List.size_toArray, List.length_cons, List.length_nil, Nat.reduceAdd, Nat.reduceSub, Array.replicate_succ, Array.replicate_zero, List.push_toArray, List.append_toArray, List.nil_append, List.cons_append]
  have HB0 : Hid (Below w.heap.size w (w.alloc (.cells #[.func (.func 60) #[] #[]] 88))) := (Below.refl _ _).alloc (Nat.le_refl _) _
  have HF0 := Lib.hid (Boxed.new w 88 (.func (.func 60) #[] #[]))
  gi_wp2_with fail
  refine ⟨trivial, wide_deep _, ?_⟩
  refine (callsIn_wide.2 (isSet_is A c a _ _ rfl ((HS.out.1.next HB0.out (Nat.le_refl _)).more HB0.out.size) (by omega))).mono ?_
  rintro e w1 ⟨rfl, hb1⟩
  have HB1 := Lib.hid (HB0.out.trans (hb1.mono HB0.out.size))
  have HF1 := Lib.hid (show Boxed w1 _ _ _ from (hb1.block w.heap.size (by simp)).trans HF0.out)
  clear hb1
  cases hsa : setB a
  · have HN := Lib.hid (show (setB a && setB b) = false from by rw [hsa]; rfl)
    clear hsa
    gi_wp2
    refine ⟨trivial, ?_⟩
    gi_wp2
    exact ⟨_, results_tmp2 rfl _ _ _, .inr ⟨HN.out, rfl⟩, HB1.out⟩
  · have HSA := Lib.hid hsa
    clear hsa
    gi_wp2_with fail
    refine ⟨trivial, wide_deep _, ?_⟩
    refine (callsIn_wide.2 (isSet_is A' c' b _ _ rfl ((HS.out.2.next HB1.out (Nat.le_refl _)).more HB1.out.size) (by omega))).mono ?_
    rintro e w2 ⟨rfl, hb2⟩
    have HB2 := Lib.hid (HB1.out.trans (hb2.mono HB1.out.size))
    have HF2 := Lib.hid (show Boxed w2 _ _ _ from (hb2.block w.heap.size HF1.out.lt).trans HF1.out)
    clear hb2 HB1 HF1 HB0 HF0
    cases hsb : setB b
    · have HN := Lib.hid (show (setB a && setB b) = false from by rw [hsb, HSA.out]; rfl)
      clear hsb
      gi_wp2
      exact ⟨_, results_tmp2 rfl _ _ _, .inr ⟨HN.out, rfl⟩, HB2.out⟩
    · have HSB := Lib.hid hsb
      clear hsb
      gi_wp2_with fail
      refine ⟨trivial, wide_deep _, ?_⟩
      refine (callsIn_wide.2 (adderOf_any _ _)).mono ?_
      rintro e w3 ⟨rfl, rfl⟩
      gi_wp2_with fail
      refine ⟨trivial, wide_deep _, ?_⟩
      refine (callsIn_wide.2 (stoldOf_any _ _ _ _ _ _ _)).mono ?_
      rintro e w3 ⟨rfl, rfl⟩
      gi_wp2_with fail
      obtain ⟨W2, hW2⟩ : ∃ W2, (((((w2.alloc (.cells #[.slice none 0 0] 28)).alloc (.cells #[.pointer (some ⟨w2.heap.size, 0, none⟩)] 84)).alloc (.cells #[.func (.func 96) #[] #[.pointer (some ⟨w2.heap.size + 1, 0, none⟩)]] 82)).alloc (.cells #[.slice A a.length c] 28)).alloc (.cells #[.slice A' b.length c'] 28)) = W2 := ⟨_, rfl⟩
      have hz : W2.heap.size = w2.heap.size + 5 := by rw [← hW2]; simp
      have hbz := HB2.out.size
      have hfl := HF2.out.lt
      have hBw : Below w.heap.size w W2 := by rw [← hW2]; exact ((((HB2.out.alloc hbz _).alloc (by simp; omega) _).alloc (by simp; omega) _).alloc (by simp; omega) _).alloc (by simp; omega) _
      have hP : Boxed W2 w2.heap.size 28 (.slice none 0 0) := by rw [← hW2]; exact ((((Boxed.new _ _ _).alloc _).alloc _).alloc _).alloc _
      have hQ : Boxed W2 (w2.heap.size + 1) 84 (.pointer (some ⟨w2.heap.size, 0, none⟩)) := by
        rw [← hW2]
        have := Boxed.new (w2.alloc (.cells #[.slice none 0 0] 28)) 84 (.pointer (some ⟨w2.heap.size, 0, none⟩))
        simp only [World.size_alloc] at this
        exact ((this.alloc _).alloc _).alloc _
      have hR : Boxed W2 (w2.heap.size + 1 + 1) 82 (.func (.func 96) #[] #[.pointer (some ⟨w2.heap.size + 1, 0, none⟩)]) := by
        rw [← hW2]
        have := Boxed.new ((w2.alloc (.cells #[.slice none 0 0] 28)).alloc (.cells #[.pointer (some ⟨w2.heap.size, 0, none⟩)] 84)) 82 (.func (.func 96) #[] #[.pointer (some ⟨w2.heap.size + 1, 0, none⟩)])
        simp only [World.size_alloc] at this
        exact (this.alloc _).alloc _
      have hV1 : Boxed W2 (w2.heap.size + 1 + 1 + 1) 28 (.slice A a.length c) := by
        rw [← hW2]
        have := Boxed.new (((w2.alloc (.cells #[.slice none 0 0] 28)).alloc (.cells #[.pointer (some ⟨w2.heap.size, 0, none⟩)] 84)).alloc (.cells #[.func (.func 96) #[] #[.pointer (some ⟨w2.heap.size + 1, 0, none⟩)]] 82)) 28 (.slice A a.length c)
        simp only [World.size_alloc] at this
        exact this.alloc _
      have hV2 : Boxed W2 (w2.heap.size + 1 + 1 + 1 + 1) 28 (.slice A' b.length c') := by
        rw [← hW2]
        have := Boxed.new ((((w2.alloc (.cells #[.slice none 0 0] 28)).alloc (.cells #[.pointer (some ⟨w2.heap.size, 0, none⟩)] 84)).alloc (.cells #[.func (.func 96) #[] #[.pointer (some ⟨w2.heap.size + 1, 0, none⟩)]] 82)).alloc (.cells #[.slice A a.length c] 28)) 28 (.slice A' b.length c')
        simp only [World.size_alloc] at this
        exact this
      have hF : Boxed W2 w.heap.size 88 (.func (.func 60) #[] #[]) := by rw [← hW2]; exact ((((HF2.out.alloc _).alloc _).alloc _).alloc _).alloc _
      rw [hW2]
      clear hW2
      have hro : Fence.wide.round = none := rfl
      obtain ⟨⟨hlc, hc⟩, hlc', hc'⟩ := HL.out
      refine wpIn_rangeFunc_ownH hro (by have := hm3.out; omega) (gf := 99) (lb := #[.pointer (some ⟨w2.heap.size + 1 + 1 + 1, 0, none⟩), .pointer (some ⟨w2.heap.size + 1 + 1 + 1 + 1, 0, none⟩)]) rfl trivial (enters_of Try.func99 (by kernel_rfl) rfl)
        (stold_stops (m - 1) w.heap.size (w2.heap.size + 1 + 1 + 1) (w2.heap.size + 1 + 1 + 1 + 1) (2 * a.length + 2 * b.length) A A' c c' a b W2 (by omega) (by omega) (by omega) (HS.out.1.next hBw (Nat.le_refl _)) (HS.out.2.next hBw (Nat.le_refl _)) hlc hc hlc' hc' (live_of HSA.out HK.out.1) (live_of HSB.out HK.out.2) (Nat.le_refl _) hV1.cell hV2.cell)
        (fun h k => h.trans k) (fun W l o o' hl h h1 h2 => belowK_b (w := W2) (n₀ := w.heap.size) (by omega) W l o o' hl h h1 h2) (Below.refl _ _) (fun _ => rfl)
        (CMid w 60 w2.heap.size wantsOr (2 * a.length + 2 * b.length)) (fun _ _ _ => False) (by rw [hz]; exact cMid_own _ _ _ _ _ hfl) (fun _ _ _ _ _ h => h.elim)
        ⟨_, hP, ownS_nil _ _, hQ, hF, hR, hBw, hfl, by simp⟩
        (fun x a' W => ∃ g, SpBox W g x.1 ∧ a' = { tmps := #[.slice A a.length c, .slice A' b.length c', .func (.func 60) #[] #[], undef, undef, .pointer (some ⟨w.heap.size, 0, none⟩), .slice none 0 0, .int .i64 0, .pointer (some ⟨w2.heap.size, 0, none⟩), .pointer (some ⟨w2.heap.size + 1 + 1, 0, none⟩), .pointer (some ⟨g, 0, none⟩), .int .i64 (x.2 : Int), .slice A a.length c, .bool true, .bool false, .bool false, .slice A' b.length c', .bool true, .bool false, .bool false, .func (.func 96) #[] #[.pointer (some ⟨w2.heap.size + 1, 0, none⟩)], .slice A a.length c, .slice A' b.length c', .func (.func 99) #[] #[.pointer (some ⟨w2.heap.size + 1 + 1 + 1, 0, none⟩), .pointer (some ⟨w2.heap.size + 1 + 1 + 1 + 1, 0, none⟩)], .agg #[.int .i64 x.1.1, .int .i64 x.1.2], .int .i64 (x.2 : Int), undef, undef, undef, undef, undef, undef, undef], defers := [] })
        (fun x a' _ X Y row ⟨g, hg, e⟩ hgr hr => ⟨g, hg.kept hgr (fun r e => (hr r e).2), e⟩) ?assign ?body ?done ?stop
      case assign =>
        rintro l pre x W K hM hK
        gi_wp2
        exact hK _ _ (keepsFrom_below ((Below.refl _ W).alloc (Nat.le_refl _) _)) ((Below.refl _ W).alloc (by obtain ⟨_, _, _, _, _, _, h6, _⟩ := hM; exact h6.size) _) (hM.alloc _) ⟨W.heap.size, heap_alloc_new W _, rfl⟩
      case body =>
        rintro l pre ⟨⟨x0, x1⟩, who⟩ a' W hwl _ ⟨v, h1, h2, h3, h4, h5, h6, h7, h8⟩ ⟨g, hg, rfl⟩ hlt
        have b4 := h4.cell
        have b5 := h5.cell
        have k0 := hg.cell 0
        have k1 := hg.cell 1
        simp at k0 k1
        have HPK := Lib.hid (pickL_snoc wantsOr [] ((x0, x1), who) pre)
        have hpl := pickL_len wantsOr [] pre
        simp only [List.length_nil, Nat.zero_add] at hpl
        have H1 := Lib.hid h1
        have H2 := Lib.hid h2
        have H3 := Lib.hid h3
        have H4 := Lib.hid h4
        have H5 := Lib.hid h5
        have H6 := Lib.hid h6
        clear h1 h2 h3 h4 h5 h6 hg
        have hpl2 : (pre ++ [((x0, x1), who)]).length ≤ 2 * a.length + 2 * b.length := by rw [List.length_append, List.length_singleton]; omega
        cases hf : wantsOr who
        · have HPN : Hid (pickL wantsOr [] (pre ++ [((x0, x1), who)]) = pickL wantsOr [] pre) := by show _ = _; rw [HPK.out]; simp only [hf]; rfl
          have HW := Lib.hid (fun X => wOr_any who X false hf)
          clear hf
          gi_wp2_with fail
          refine ⟨trivial, wide_deep _, ?_⟩
          refine (callsIn_wide.2 (HW.out _)).mono ?_
          rintro e w9 ⟨rfl, rfl⟩
          gi_wp2
          exact ⟨KeepsFrom.refl _ _, Below.refl _ _, v, H1.out, (by rw [HPN.out]; exact H2.out), H3.out, H4.out, H5.out, H6.out, h7, hpl2⟩
        · have HPN : Hid (pickL wantsOr [] (pre ++ [((x0, x1), who)]) = addL (pickL wantsOr [] pre) (x0, x1)) := by show _ = _; rw [HPK.out]; simp only [hf]; rfl
          have HW := Lib.hid (fun X => wOr_any who X true hf)
          clear hf
          gi_wp2_with fail
          refine ⟨trivial, wide_deep _, ?_⟩
          refine (callsIn_wide.2 (HW.out _)).mono ?_
          rintro e w9 ⟨rfl, rfl⟩
          gi_wp2_with fail
          refine ⟨trivial, wide_deep _, ?_⟩
          refine (callsIn_wide.2 (add_any w.heap.size (w2.heap.size + 1) w2.heap.size (pickL wantsOr [] pre) v x0 x1 W H3.out H1.out H2.out H6.out.size (by omega))).mono ?_
          rintro e w9 ⟨rfl, hadd, v', hv', ho'⟩
          have HN := Lib.hid (show KeepsFrom W2.heap.size W w9 ∧ Below w.heap.size W w9 ∧ CMid w 60 w2.heap.size wantsOr (2 * a.length + 2 * b.length) (pre ++ [((x0, x1), who)]) w9 from
            ⟨(hadd.others H1.out H2.out).from _, hadd.below (by omega) H2.out H6.out.size, v', hv', (by rw [HPN.out]; exact ho'), hadd.boxed H3.out (by omega) (by decide) H2.out, hadd.boxed H4.out (by omega) (by decide) H2.out, hadd.boxed H5.out (by omega) (by decide) H2.out, H6.out.trans (hadd.below (by omega) H2.out H6.out.size), h7, hpl2⟩)
          clear hadd hv' ho' b4 b5 k0 k1
          gi_wp2
          exact HN.out
      case done =>
        rintro D ys W hD hys ⟨v, h1, h2, h3, h4, h5, h6, h7, h8⟩ hK
        obtain ⟨A9, c9, rfl, _, _, _⟩ := h2.sls
        have b0 := h1.cell
        have HE := Lib.hid (show ChEnd w wantsOr a b (.returned (.tuple #[.slice A9 (pickL wantsOr [] ys).length c9, .int .i64 0])) (W.putObj D (.deferred none)) from
          ⟨.inl ⟨HSA.out, HSB.out, pickL wantsOr [] ys, _, ⟨ys, hys, rfl⟩, by have := pickL_len wantsOr [] ys; simp only [List.length_nil, Nat.zero_add] at this; omega, rfl,
            h2.kept (grownBy_putObj' W D (.deferred none)) (fun r e => by injection e with e; subst e; exact ⟨_, hK, rfl⟩)⟩,
           h6.trans (belowK_b (w := W2) (n₀ := w.heap.size) (by omega) W D _ _ hD hK rfl rfl)⟩)
        clear h1 h2 h3 h4 h5 h6 h7 h8 hys
        gi_wp2
        refine ⟨by simp, .inl ⟨_, _, rfl, run_takeDeferred hK, ?_⟩⟩
        exact ⟨_, results_tmp2 rfl _ _ _, by exact HE.out⟩
      case stop =>
        rintro D cd pre W _ _ h _
        exact h.elim
set_option maxRecDepth 100000 in
set_option maxHeartbeats 1000000 in
theorem chosenAnd_in (m : Nat) (hm3 : Hid (3 ≤ m)) (A A' : Option Addr) (c c' : Nat) (a b : List Sp) (w : World) (hs : SlS w w.heap.size A a) (hs' : SlS w w.heap.size A' b) (hlc : a.length ≤ c) (hc : c ≤ maxLen) (hlc' : b.length ≤ c') (hc' : c' ≤ maxLen)
    (hl : 2 * a.length + 2 * b.length ≤ 1000) (hka : ∀ s ∈ a, SpOk s) (hkb : ∀ s ∈ b, SpOk s) :
    CallsIn Fence.wide m Try.prog 59 #[.slice A a.length c, .slice A' b.length c', .func (.func 61) #[] #[]] w (ChEnd w wantsAnd a b) := by
  have HS := Lib.hid (And.intro hs hs')
  have HL := Lib.hid (And.intro (And.intro hlc hc) (And.intro hlc' hc'))
  have HK := Lib.hid (And.intro hka hkb)
  clear hs hs' hlc hc hlc' hc' hka hkb
  refine callsIn_of_wp_marks Try.func59 rfl trivial ?_ rfl
  simp only [Try.ntmps59, List.size_toArray, List.length_cons, List.length_nil, Nat.reduceAdd, Nat.reduceSub, Array.replicate_succ, Array.replicate_zero, List.push_toArray, List.append_toArray, List.nil_append, List.cons_append]
  have HB0 : Hid (Below w.heap.size w (w.alloc (.cells #[.func (.func 61) #[] #[]] 88))) := (Below.refl _ _).alloc (Nat.le_refl _) _
  have HF0 := Lib.hid (Boxed.new w 88 (.func (.func 61) #[] #[]))
  gi_wp2_with fail
  refine ⟨trivial, wide_deep _, ?_⟩
  refine (callsIn_wide.2 (isSet_is A c a _ _ rfl ((HS.out.1.next HB0.out (Nat.le_refl _)).more HB0.out.size) (by omega))).mono ?_
  rintro e w1 ⟨rfl, hb1⟩
  have HB1 := Lib.hid (HB0.out.trans (hb1.mono HB0.out.size))
  have HF1 := Lib.hid (show Boxed w1 _ _ _ from (hb1.block w.heap.size (by simp)).trans HF0.out)
  clear hb1
  cases hsa : setB a
  · have HN := Lib.hid (show (setB a && setB b) = false from by rw [hsa]; rfl)
    clear hsa
    gi_wp2
    refine ⟨trivial, ?_⟩
    gi_wp2
    exact ⟨_, results_tmp2 rfl _ _ _, .inr ⟨HN.out, rfl⟩, HB1.out⟩
  · have HSA := Lib.hid hsa
    clear hsa
    gi_wp2_with fail
    refine ⟨trivial, wide_deep _, ?_⟩
    refine (callsIn_wide.2 (isSet_is A' c' b _ _ rfl ((HS.out.2.next HB1.out (Nat.le_refl _)).more HB1.out.size) (by omega))).mono ?_
    rintro e w2 ⟨rfl, hb2⟩
    have HB2 := Lib.hid (HB1.out.trans (hb2.mono HB1.out.size))
    have HF2 := Lib.hid (show Boxed w2 _ _ _ from (hb2.block w.heap.size HF1.out.lt).trans HF1.out)
    clear hb2 HB1 HF1 HB0 HF0
    cases hsb : setB b
    · have HN := Lib.hid (show (setB a && setB b) = false from by rw [hsb, HSA.out]; rfl)
      clear hsb
      gi_wp2
      exact ⟨_, results_tmp2 rfl _ _ _, .inr ⟨HN.out, rfl⟩, HB2.out⟩
    · have HSB := Lib.hid hsb
      clear hsb
      gi_wp2_with fail
      refine ⟨trivial, wide_deep _, ?_⟩
      refine (callsIn_wide.2 (adderOf_any _ _)).mono ?_
      rintro e w3 ⟨rfl, rfl⟩
      gi_wp2_with fail
      refine ⟨trivial, wide_deep _, ?_⟩
      refine (callsIn_wide.2 (stoldOf_any _ _ _ _ _ _ _)).mono ?_
      rintro e w3 ⟨rfl, rfl⟩
      gi_wp2_with fail
      obtain ⟨W2, hW2⟩ : ∃ W2, (((((w2.alloc (.cells #[.slice none 0 0] 28)).alloc (.cells #[.pointer (some ⟨w2.heap.size, 0, none⟩)] 84)).alloc (.cells #[.func (.func 96) #[] #[.pointer (some ⟨w2.heap.size + 1, 0, none⟩)]] 82)).alloc (.cells #[.slice A a.length c] 28)).alloc (.cells #[.slice A' b.length c'] 28)) = W2 := ⟨_, rfl⟩
      have hz : W2.heap.size = w2.heap.size + 5 := by rw [← hW2]; simp
      have hbz := HB2.out.size
      have hfl := HF2.out.lt
      have hBw : Below w.heap.size w W2 := by rw [← hW2]; exact ((((HB2.out.alloc hbz _).alloc (by simp; omega) _).alloc (by simp; omega) _).alloc (by simp; omega) _).alloc (by simp; omega) _
      have hP : Boxed W2 w2.heap.size 28 (.slice none 0 0) := by rw [← hW2]; exact ((((Boxed.new _ _ _).alloc _).alloc _).alloc _).alloc _
      have hQ : Boxed W2 (w2.heap.size + 1) 84 (.pointer (some ⟨w2.heap.size, 0, none⟩)) := by
        rw [← hW2]
        have := Boxed.new (w2.alloc (.cells #[.slice none 0 0] 28)) 84 (.pointer (some ⟨w2.heap.size, 0, none⟩))
        simp only [World.size_alloc] at this
        exact ((this.alloc _).alloc _).alloc _
      have hR : Boxed W2 (w2.heap.size + 1 + 1) 82 (.func (.func 96) #[] #[.pointer (some ⟨w2.heap.size + 1, 0, none⟩)]) := by
        rw [← hW2]
        have := Boxed.new ((w2.alloc (.cells #[.slice none 0 0] 28)).alloc (.cells #[.pointer (some ⟨w2.heap.size, 0, none⟩)] 84)) 82 (.func (.func 96) #[] #[.pointer (some ⟨w2.heap.size + 1, 0, none⟩)])
        simp only [World.size_alloc] at this
        exact (this.alloc _).alloc _
      have hV1 : Boxed W2 (w2.heap.size + 1 + 1 + 1) 28 (.slice A a.length c) := by
        rw [← hW2]
        have := Boxed.new (((w2.alloc (.cells #[.slice none 0 0] 28)).alloc (.cells #[.pointer (some ⟨w2.heap.size, 0, none⟩)] 84)).alloc (.cells #[.func (.func 96) #[] #[.pointer (some ⟨w2.heap.size + 1, 0, none⟩)]] 82)) 28 (.slice A a.length c)
        simp only [World.size_alloc] at this
        exact this.alloc _
      have hV2 : Boxed W2 (w2.heap.size + 1 + 1 + 1 + 1) 28 (.slice A' b.length c') := by
        rw [← hW2]
        have := Boxed.new ((((w2.alloc (.cells #[.slice none 0 0] 28)).alloc (.cells #[.pointer (some ⟨w2.heap.size, 0, none⟩)] 84)).alloc (.cells #[.func (.func 96) #[] #[.pointer (some ⟨w2.heap.size + 1, 0, none⟩)]] 82)).alloc (.cells #[.slice A a.length c] 28)) 28 (.slice A' b.length c')
        simp only [World.size_alloc] at this
        exact this
      have hF : Boxed W2 w.heap.size 88 (.func (.func 61) #[] #[]) := by rw [← hW2]; exact ((((HF2.out.alloc _).alloc _).alloc _).alloc _).alloc _
      rw [hW2]
      clear hW2
      have hro : Fence.wide.round = none := rfl
      obtain ⟨⟨hlc, hc⟩, hlc', hc'⟩ := HL.out
      refine wpIn_rangeFunc_ownH hro (by have := hm3.out; omega) (gf := 99) (lb := #[.pointer (some ⟨w2.heap.size + 1 + 1 + 1, 0, none⟩), .pointer (some ⟨w2.heap.size + 1 + 1 + 1 + 1, 0, none⟩)]) rfl trivial (enters_of Try.func99 (by kernel_rfl) rfl)
        (stold_stops (m - 1) w.heap.size (w2.heap.size + 1 + 1 + 1) (w2.heap.size + 1 + 1 + 1 + 1) (2 * a.length + 2 * b.length) A A' c c' a b W2 (by omega) (by omega) (by omega) (HS.out.1.next hBw (Nat.le_refl _)) (HS.out.2.next hBw (Nat.le_refl _)) hlc hc hlc' hc' (live_of HSA.out HK.out.1) (live_of HSB.out HK.out.2) (Nat.le_refl _) hV1.cell hV2.cell)
        (fun h k => h.trans k) (fun W l o o' hl h h1 h2 => belowK_b (w := W2) (n₀ := w.heap.size) (by omega) W l o o' hl h h1 h2) (Below.refl _ _) (fun _ => rfl)
        (CMid w 61 w2.heap.size wantsAnd (2 * a.length + 2 * b.length)) (fun _ _ _ => False) (by rw [hz]; exact cMid_own _ _ _ _ _ hfl) (fun _ _ _ _ _ h => h.elim)
        ⟨_, hP, ownS_nil _ _, hQ, hF, hR, hBw, hfl, by simp⟩
        (fun x a' W => ∃ g, SpBox W g x.1 ∧ a' = { tmps := #[.slice A a.length c, .slice A' b.length c', .func (.func 61) #[] #[], undef, undef, .pointer (some ⟨w.heap.size, 0, none⟩), .slice none 0 0, .int .i64 0, .pointer (some ⟨w2.heap.size, 0, none⟩), .pointer (some ⟨w2.heap.size + 1 + 1, 0, none⟩), .pointer (some ⟨g, 0, none⟩), .int .i64 (x.2 : Int), .slice A a.length c, .bool true, .bool false, .bool false, .slice A' b.length c', .bool true, .bool false, .bool false, .func (.func 96) #[] #[.pointer (some ⟨w2.heap.size + 1, 0, none⟩)], .slice A a.length c, .slice A' b.length c', .func (.func 99) #[] #[.pointer (some ⟨w2.heap.size + 1 + 1 + 1, 0, none⟩), .pointer (some ⟨w2.heap.size + 1 + 1 + 1 + 1, 0, none⟩)], .agg #[.int .i64 x.1.1, .int .i64 x.1.2], .int .i64 (x.2 : Int), undef, undef, undef, undef, undef, undef, undef], defers := [] })
        (fun x a' _ X Y row ⟨g, hg, e⟩ hgr hr => ⟨g, hg.kept hgr (fun r e => (hr r e).2), e⟩) ?assign ?body ?done ?stop
      case assign =>
        rintro l pre x W K hM hK
        gi_wp2
        exact hK _ _ (keepsFrom_below ((Below.refl _ W).alloc (Nat.le_refl _) _)) ((Below.refl _ W).alloc (by obtain ⟨_, _, _, _, _, _, h6, _⟩ := hM; exact h6.size) _) (hM.alloc _) ⟨W.heap.size, heap_alloc_new W _, rfl⟩
      case body =>
        rintro l pre ⟨⟨x0, x1⟩, who⟩ a' W hwl _ ⟨v, h1, h2, h3, h4, h5, h6, h7, h8⟩ ⟨g, hg, rfl⟩ hlt
        have b4 := h4.cell
        have b5 := h5.cell
        have k0 := hg.cell 0
        have k1 := hg.cell 1
        simp at k0 k1
        have HPK := Lib.hid (pickL_snoc wantsAnd [] ((x0, x1), who) pre)
        have hpl := pickL_len wantsAnd [] pre
        simp only [List.length_nil, Nat.zero_add] at hpl
        have H1 := Lib.hid h1
        have H2 := Lib.hid h2
        have H3 := Lib.hid h3
        have H4 := Lib.hid h4
        have H5 := Lib.hid h5
        have H6 := Lib.hid h6
        clear h1 h2 h3 h4 h5 h6 hg
        have hpl2 : (pre ++ [((x0, x1), who)]).length ≤ 2 * a.length + 2 * b.length := by rw [List.length_append, List.length_singleton]; omega
        cases hf : wantsAnd who
        · have HPN : Hid (pickL wantsAnd [] (pre ++ [((x0, x1), who)]) = pickL wantsAnd [] pre) := by show _ = _; rw [HPK.out]; simp only [hf]; rfl
          have HW := Lib.hid (fun X => wAnd_any who X false hf)
          clear hf
          gi_wp2_with fail
          refine ⟨trivial, wide_deep _, ?_⟩
          refine (callsIn_wide.2 (HW.out _)).mono ?_
          rintro e w9 ⟨rfl, rfl⟩
          gi_wp2
          exact ⟨KeepsFrom.refl _ _, Below.refl _ _, v, H1.out, (by rw [HPN.out]; exact H2.out), H3.out, H4.out, H5.out, H6.out, h7, hpl2⟩
        · have HPN : Hid (pickL wantsAnd [] (pre ++ [((x0, x1), who)]) = addL (pickL wantsAnd [] pre) (x0, x1)) := by show _ = _; rw [HPK.out]; simp only [hf]; rfl
          have HW := Lib.hid (fun X => wAnd_any who X true hf)
          clear hf
          gi_wp2_with fail
          refine ⟨trivial, wide_deep _, ?_⟩
          refine (callsIn_wide.2 (HW.out _)).mono ?_
          rintro e w9 ⟨rfl, rfl⟩
          gi_wp2_with fail
          refine ⟨trivial, wide_deep _, ?_⟩
          refine (callsIn_wide.2 (add_any w.heap.size (w2.heap.size + 1) w2.heap.size (pickL wantsAnd [] pre) v x0 x1 W H3.out H1.out H2.out H6.out.size (by omega))).mono ?_
          rintro e w9 ⟨rfl, hadd, v', hv', ho'⟩
          have HN := Lib.hid (show KeepsFrom W2.heap.size W w9 ∧ Below w.heap.size W w9 ∧ CMid w 61 w2.heap.size wantsAnd (2 * a.length + 2 * b.length) (pre ++ [((x0, x1), who)]) w9 from
            ⟨(hadd.others H1.out H2.out).from _, hadd.below (by omega) H2.out H6.out.size, v', hv', (by rw [HPN.out]; exact ho'), hadd.boxed H3.out (by omega) (by decide) H2.out, hadd.boxed H4.out (by omega) (by decide) H2.out, hadd.boxed H5.out (by omega) (by decide) H2.out, H6.out.trans (hadd.below (by omega) H2.out H6.out.size), h7, hpl2⟩)
          clear hadd hv' ho' b4 b5 k0 k1
          gi_wp2
          exact HN.out
      case done =>
        rintro D ys W hD hys ⟨v, h1, h2, h3, h4, h5, h6, h7, h8⟩ hK
        obtain ⟨A9, c9, rfl, _, _, _⟩ := h2.sls
        have b0 := h1.cell
        have HE := Lib.hid (show ChEnd w wantsAnd a b (.returned (.tuple #[.slice A9 (pickL wantsAnd [] ys).length c9, .int .i64 0])) (W.putObj D (.deferred none)) from
          ⟨.inl ⟨HSA.out, HSB.out, pickL wantsAnd [] ys, _, ⟨ys, hys, rfl⟩, by have := pickL_len wantsAnd [] ys; simp only [List.length_nil, Nat.zero_add] at this; omega, rfl,
            h2.kept (grownBy_putObj' W D (.deferred none)) (fun r e => by injection e with e; subst e; exact ⟨_, hK, rfl⟩)⟩,
           h6.trans (belowK_b (w := W2) (n₀ := w.heap.size) (by omega) W D _ _ hD hK rfl rfl)⟩)
        clear h1 h2 h3 h4 h5 h6 h7 h8 hys
        gi_wp2
        refine ⟨by simp, .inl ⟨_, _, rfl, run_takeDeferred hK, ?_⟩⟩
        exact ⟨_, results_tmp2 rfl _ _ _, by exact HE.out⟩
      case stop =>
        rintro D cd pre W _ _ h _
        exact h.elim
set_option maxRecDepth 100000 in
set_option maxHeartbeats 1000000 in
theorem chosenMinus_in (m : Nat) (hm3 : Hid (3 ≤ m)) (A A' : Option Addr) (c c' : Nat) (a b : List Sp) (w : World) (hs : SlS w w.heap.size A a) (hs' : SlS w w.heap.size A' b) (hlc : a.length ≤ c) (hc : c ≤ maxLen) (hlc' : b.length ≤ c') (hc' : c' ≤ maxLen)
    (hl : 2 * a.length + 2 * b.length ≤ 1000) (hka : ∀ s ∈ a, SpOk s) (hkb : ∀ s ∈ b, SpOk s) :
    CallsIn Fence.wide m Try.prog 59 #[.slice A a.length c, .slice A' b.length c', .func (.func 62) #[] #[]] w (ChEnd w wantsMinus a b) := by
  have HS := Lib.hid (And.intro hs hs')
  have HL := Lib.hid (And.intro (And.intro hlc hc) (And.intro hlc' hc'))
  have HK := Lib.hid (And.intro hka hkb)
  clear hs hs' hlc hc hlc' hc' hka hkb
  refine callsIn_of_wp_marks Try.func59 rfl trivial ?_ rfl
  simp only [Try.ntmps59, List.size_toArray, List.length_cons, List.length_nil, Nat.reduceAdd, Nat.reduceSub, Array.replicate_succ, Array.replicate_zero, List.push_toArray, List.append_toArray, List.nil_append, List.cons_append]
  have HB0 : Hid (Below w.heap.size w (w.alloc (.cells #[.func (.func 62) #[] #[]] 88))) := (Below.refl _ _).alloc (Nat.le_refl _) _
  have HF0 := Lib.hid (Boxed.new w 88 (.func (.func 62) #[] #[]))
  gi_wp2_with fail
  refine ⟨trivial, wide_deep _, ?_⟩
  refine (callsIn_wide.2 (isSet_is A c a _ _ rfl ((HS.out.1.next HB0.out (Nat.le_refl _)).more HB0.out.size) (by omega))).mono ?_
  rintro e w1 ⟨rfl, hb1⟩
  have HB1 := Lib.hid (HB0.out.trans (hb1.mono HB0.out.size))
  have HF1 := Lib.hid (show Boxed w1 _ _ _ from (hb1.block w.heap.size (by simp)).trans HF0.out)
  clear hb1
  cases hsa : setB a
  · have HN := Lib.hid (show (setB a && setB b) = false from by rw [hsa]; rfl)
    clear hsa
    gi_wp2
    refine ⟨trivial, ?_⟩
    gi_wp2
    exact ⟨_, results_tmp2 rfl _ _ _, .inr ⟨HN.out, rfl⟩, HB1.out⟩
  · have HSA := Lib.hid hsa
    clear hsa
    gi_wp2_with fail
    refine ⟨trivial, wide_deep _, ?_⟩
    refine (callsIn_wide.2 (isSet_is A' c' b _ _ rfl ((HS.out.2.next HB1.out (Nat.le_refl _)).more HB1.out.size) (by omega))).mono ?_
    rintro e w2 ⟨rfl, hb2⟩
    have HB2 := Lib.hid (HB1.out.trans (hb2.mono HB1.out.size))
    have HF2 := Lib.hid (show Boxed w2 _ _ _ from (hb2.block w.heap.size HF1.out.lt).trans HF1.out)
    clear hb2 HB1 HF1 HB0 HF0
    cases hsb : setB b
    · have HN := Lib.hid (show (setB a && setB b) = false from by rw [hsb, HSA.out]; rfl)
      clear hsb
      gi_wp2
      exact ⟨_, results_tmp2 rfl _ _ _, .inr ⟨HN.out, rfl⟩, HB2.out⟩
    · have HSB := Lib.hid hsb
      clear hsb
      gi_wp2_with fail
      refine ⟨trivial, wide_deep _, ?_⟩
      refine (callsIn_wide.2 (adderOf_any _ _)).mono ?_
      rintro e w3 ⟨rfl, rfl⟩
      gi_wp2_with fail
      refine ⟨trivial, wide_deep _, ?_⟩
      refine (callsIn_wide.2 (stoldOf_any _ _ _ _ _ _ _)).mono ?_
      rintro e w3 ⟨rfl, rfl⟩
      gi_wp2_with fail
      obtain ⟨W2, hW2⟩ : ∃ W2, (((((w2.alloc (.cells #[.slice none 0 0] 28)).alloc (.cells #[.pointer (some ⟨w2.heap.size, 0, none⟩)] 84)).alloc (.cells #[.func (.func 96) #[] #[.pointer (some ⟨w2.heap.size + 1, 0, none⟩)]] 82)).alloc (.cells #[.slice A a.length c] 28)).alloc (.cells #[.slice A' b.length c'] 28)) = W2 := ⟨_, rfl⟩
      have hz : W2.heap.size = w2.heap.size + 5 := by rw [← hW2]; simp
      have hbz := HB2.out.size
      have hfl := HF2.out.lt
      have hBw : Below w.heap.size w W2 := by rw [← hW2]; exact ((((HB2.out.alloc hbz _).alloc (by simp; omega) _).alloc (by simp; omega) _).alloc (by simp; omega) _).alloc (by simp; omega) _
      have hP : Boxed W2 w2.heap.size 28 (.slice none 0 0) := by rw [← hW2]; exact ((((Boxed.new _ _ _).alloc _).alloc _).alloc _).alloc _
      have hQ : Boxed W2 (w2.heap.size + 1) 84 (.pointer (some ⟨w2.heap.size, 0, none⟩)) := by
        rw [← hW2]
        have := Boxed.new (w2.alloc (.cells #[.slice none 0 0] 28)) 84 (.pointer (some ⟨w2.heap.size, 0, none⟩))
        simp only [World.size_alloc] at this
        exact ((this.alloc _).alloc _).alloc _
      have hR : Boxed W2 (w2.heap.size + 1 + 1) 82 (.func (.func 96) #[] #[.pointer (some ⟨w2.heap.size + 1, 0, none⟩)]) := by
        rw [← hW2]
        have := Boxed.new ((w2.alloc (.cells #[.slice none 0 0] 28)).alloc (.cells #[.pointer (some ⟨w2.heap.size, 0, none⟩)] 84)) 82 (.func (.func 96) #[] #[.pointer (some ⟨w2.heap.size + 1, 0, none⟩)])
        simp only [World.size_alloc] at this
        exact (this.alloc _).alloc _
      have hV1 : Boxed W2 (w2.heap.size + 1 + 1 + 1) 28 (.slice A a.length c) := by
        rw [← hW2]
        have := Boxed.new (((w2.alloc (.cells #[.slice none 0 0] 28)).alloc (.cells #[.pointer (some ⟨w2.heap.size, 0, none⟩)] 84)).alloc (.cells #[.func (.func 96) #[] #[.pointer (some ⟨w2.heap.size + 1, 0, none⟩)]] 82)) 28 (.slice A a.length c)
        simp only [World.size_alloc] at this
        exact this.alloc _
      have hV2 : Boxed W2 (w2.heap.size + 1 + 1 + 1 + 1) 28 (.slice A' b.length c') := by
        rw [← hW2]
        have := Boxed.new ((((w2.alloc (.cells #[.slice none 0 0] 28)).alloc (.cells #[.pointer (some ⟨w2.heap.size, 0, none⟩)] 84)).alloc (.cells #[.func (.func 96) #[] #[.pointer (some ⟨w2.heap.size + 1, 0, none⟩)]] 82)).alloc (.cells #[.slice A a.length c] 28)) 28 (.slice A' b.length c')
        simp only [World.size_alloc] at this
        exact this
      have hF : Boxed W2 w.heap.size 88 (.func (.func 62) #[] #[]) := by rw [← hW2]; exact ((((HF2.out.alloc _).alloc _).alloc _).alloc _).alloc _
      rw [hW2]
      clear hW2
      have hro : Fence.wide.round = none := rfl
      obtain ⟨⟨hlc, hc⟩, hlc', hc'⟩ := HL.out
      refine wpIn_rangeFunc_ownH hro (by have := hm3.out; omega) (gf := 99) (lb := #[.pointer (some ⟨w2.heap.size + 1 + 1 + 1, 0, none⟩), .pointer (some ⟨w2.heap.size + 1 + 1 + 1 + 1, 0, none⟩)]) rfl trivial (enters_of Try.func99 (by kernel_rfl) rfl)
        (stold_stops (m - 1) w.heap.size (w2.heap.size + 1 + 1 + 1) (w2.heap.size + 1 + 1 + 1 + 1) (2 * a.length + 2 * b.length) A A' c c' a b W2 (by omega) (by omega) (by omega) (HS.out.1.next hBw (Nat.le_refl _)) (HS.out.2.next hBw (Nat.le_refl _)) hlc hc hlc' hc' (live_of HSA.out HK.out.1) (live_of HSB.out HK.out.2) (Nat.le_refl _) hV1.cell hV2.cell)
        (fun h k => h.trans k) (fun W l o o' hl h h1 h2 => belowK_b (w := W2) (n₀ := w.heap.size) (by omega) W l o o' hl h h1 h2) (Below.refl _ _) (fun _ => rfl)
        (CMid w 62 w2.heap.size wantsMinus (2 * a.length + 2 * b.length)) (fun _ _ _ => False) (by rw [hz]; exact cMid_own _ _ _ _ _ hfl) (fun _ _ _ _ _ h => h.elim)
        ⟨_, hP, ownS_nil _ _, hQ, hF, hR, hBw, hfl, by simp⟩
        (fun x a' W => ∃ g, SpBox W g x.1 ∧ a' = { tmps := #[.slice A a.length c, .slice A' b.length c', .func (.func 62) #[] #[], undef, undef, .pointer (some ⟨w.heap.size, 0, none⟩), .slice none 0 0, .int .i64 0, .pointer (some ⟨w2.heap.size, 0, none⟩), .pointer (some ⟨w2.heap.size + 1 + 1, 0, none⟩), .pointer (some ⟨g, 0, none⟩), .int .i64 (x.2 : Int), .slice A a.length c, .bool true, .bool false, .bool false, .slice A' b.length c', .bool true, .bool false, .bool false, .func (.func 96) #[] #[.pointer (some ⟨w2.heap.size + 1, 0, none⟩)], .slice A a.length c, .slice A' b.length c', .func (.func 99) #[] #[.pointer (some ⟨w2.heap.size + 1 + 1 + 1, 0, none⟩), .pointer (some ⟨w2.heap.size + 1 + 1 + 1 + 1, 0, none⟩)], .agg #[.int .i64 x.1.1, .int .i64 x.1.2], .int .i64 (x.2 : Int), undef, undef, undef, undef, undef, undef, undef], defers := [] })
        (fun x a' _ X Y row ⟨g, hg, e⟩ hgr hr => ⟨g, hg.kept hgr (fun r e => (hr r e).2), e⟩) ?assign ?body ?done ?stop
      case assign =>
        rintro l pre x W K hM hK
        gi_wp2
        exact hK _ _ (keepsFrom_below ((Below.refl _ W).alloc (Nat.le_refl _) _)) ((Below.refl _ W).alloc (by obtain ⟨_, _, _, _, _, _, h6, _⟩ := hM; exact h6.size) _) (hM.alloc _) ⟨W.heap.size, heap_alloc_new W _, rfl⟩
      case body =>
        rintro l pre ⟨⟨x0, x1⟩, who⟩ a' W hwl _ ⟨v, h1, h2, h3, h4, h5, h6, h7, h8⟩ ⟨g, hg, rfl⟩ hlt
        have b4 := h4.cell
        have b5 := h5.cell
        have k0 := hg.cell 0
        have k1 := hg.cell 1
        simp at k0 k1
        have HPK := Lib.hid (pickL_snoc wantsMinus [] ((x0, x1), who) pre)
        have hpl := pickL_len wantsMinus [] pre
        simp only [List.length_nil, Nat.zero_add] at hpl
        have H1 := Lib.hid h1
        have H2 := Lib.hid h2
        have H3 := Lib.hid h3
        have H4 := Lib.hid h4
        have H5 := Lib.hid h5
        have H6 := Lib.hid h6
        clear h1 h2 h3 h4 h5 h6 hg
        have hpl2 : (pre ++ [((x0, x1), who)]).length ≤ 2 * a.length + 2 * b.length := by rw [List.length_append, List.length_singleton]; omega
        cases hf : wantsMinus who
        · have HPN : Hid (pickL wantsMinus [] (pre ++ [((x0, x1), who)]) = pickL wantsMinus [] pre) := by show _ = _; rw [HPK.out]; simp only [hf]; rfl
          have HW := Lib.hid (fun X => wMinus_any who X false hf)
          clear hf
          gi_wp2_with fail
          refine ⟨trivial, wide_deep _, ?_⟩
          refine (callsIn_wide.2 (HW.out _)).mono ?_
          rintro e w9 ⟨rfl, rfl⟩
          gi_wp2
          exact ⟨KeepsFrom.refl _ _, Below.refl _ _, v, H1.out, (by rw [HPN.out]; exact H2.out), H3.out, H4.out, H5.out, H6.out, h7, hpl2⟩
        · have HPN : Hid (pickL wantsMinus [] (pre ++ [((x0, x1), who)]) = addL (pickL wantsMinus [] pre) (x0, x1)) := by show _ = _; rw [HPK.out]; simp only [hf]; rfl
          have HW := Lib.hid (fun X => wMinus_any who X true hf)
          clear hf
          gi_wp2_with fail
          refine ⟨trivial, wide_deep _, ?_⟩
          refine (callsIn_wide.2 (HW.out _)).mono ?_
          rintro e w9 ⟨rfl, rfl⟩
          gi_wp2_with fail
          refine ⟨trivial, wide_deep _, ?_⟩
          refine (callsIn_wide.2 (add_any w.heap.size (w2.heap.size + 1) w2.heap.size (pickL wantsMinus [] pre) v x0 x1 W H3.out H1.out H2.out H6.out.size (by omega))).mono ?_
          rintro e w9 ⟨rfl, hadd, v', hv', ho'⟩
          have HN := Lib.hid (show KeepsFrom W2.heap.size W w9 ∧ Below w.heap.size W w9 ∧ CMid w 62 w2.heap.size wantsMinus (2 * a.length + 2 * b.length) (pre ++ [((x0, x1), who)]) w9 from
            ⟨(hadd.others H1.out H2.out).from _, hadd.below (by omega) H2.out H6.out.size, v', hv', (by rw [HPN.out]; exact ho'), hadd.boxed H3.out (by omega) (by decide) H2.out, hadd.boxed H4.out (by omega) (by decide) H2.out, hadd.boxed H5.out (by omega) (by decide) H2.out, H6.out.trans (hadd.below (by omega) H2.out H6.out.size), h7, hpl2⟩)
          clear hadd hv' ho' b4 b5 k0 k1
          gi_wp2
          exact HN.out
      case done =>
        rintro D ys W hD hys ⟨v, h1, h2, h3, h4, h5, h6, h7, h8⟩ hK
        obtain ⟨A9, c9, rfl, _, _, _⟩ := h2.sls
        have b0 := h1.cell
        have HE := Lib.hid (show ChEnd w wantsMinus a b (.returned (.tuple #[.slice A9 (pickL wantsMinus [] ys).length c9, .int .i64 0])) (W.putObj D (.deferred none)) from
          ⟨.inl ⟨HSA.out, HSB.out, pickL wantsMinus [] ys, _, ⟨ys, hys, rfl⟩, by have := pickL_len wantsMinus [] ys; simp only [List.length_nil, Nat.zero_add] at this; omega, rfl,
            h2.kept (grownBy_putObj' W D (.deferred none)) (fun r e => by injection e with e; subst e; exact ⟨_, hK, rfl⟩)⟩,
           h6.trans (belowK_b (w := W2) (n₀ := w.heap.size) (by omega) W D _ _ hD hK rfl rfl)⟩)
        clear h1 h2 h3 h4 h5 h6 h7 h8 hys
        gi_wp2
        refine ⟨by simp, .inl ⟨_, _, rfl, run_takeDeferred hK, ?_⟩⟩
        exact ⟨_, results_tmp2 rfl _ _ _, by exact HE.out⟩
      case stop =>
        rintro D cd pre W _ _ h _
        exact h.elim
set_option maxHeartbeats 400000 in
theorem spanOr_any (A A' : Option Addr) (c c' : Nat) (a b : List Sp) (w : World) (hs : SlS w w.heap.size A a) (hs' : SlS w w.heap.size A' b) (hlc : a.length ≤ c) (hc : c ≤ maxLen) (hlc' : b.length ≤ c') (hc' : c' ≤ maxLen)
    (hl : 2 * a.length + 2 * b.length ≤ 1000) (hka : ∀ s ∈ a, SpOk s) (hkb : ∀ s ∈ b, SpOk s) :
    Calls Try.prog 17 #[.slice A a.length c, .slice A' b.length c'] w (ChEnd w wantsOr a b) := by
  have hch := (callsIn_wide (n := 9)).1 (chosenOr_in 9 (Nat.le_of_ble_eq_true rfl) A A' c c' a b w hs hs' hlc hc hlc' hc' hl hka hkb)
  have HC := Lib.hid hch
  clear hch hs hs' hlc hc hlc' hc' hl hka hkb
  go_enter Try.func17, Try.ntmps17
  go_wp2_with fail
  refine HC.out.mono ?_
  rintro e W' ⟨⟨h1, h2, l, v, h3, h4, rfl, h5⟩ | ⟨h1, rfl⟩, hb⟩
  · have HE := Lib.hid (show ChEnd w wantsOr a b _ W' from ⟨.inl ⟨h1, h2, l, v, h3, h4, rfl, h5⟩, hb⟩)
    clear h1 h2 h3 h4 h5 hb
    go_wp2
    go_ret2
    exact HE.out
  · have HE := Lib.hid (show ChEnd w wantsOr a b _ W' from ⟨.inr ⟨h1, rfl⟩, hb⟩)
    clear h1 hb
    go_wp2
    go_ret2
    exact HE.out
set_option maxHeartbeats 400000 in
theorem spanAnd_any (A A' : Option Addr) (c c' : Nat) (a b : List Sp) (w : World) (hs : SlS w w.heap.size A a) (hs' : SlS w w.heap.size A' b) (hlc : a.length ≤ c) (hc : c ≤ maxLen) (hlc' : b.length ≤ c') (hc' : c' ≤ maxLen)
    (hl : 2 * a.length + 2 * b.length ≤ 1000) (hka : ∀ s ∈ a, SpOk s) (hkb : ∀ s ∈ b, SpOk s) :
    Calls Try.prog 19 #[.slice A a.length c, .slice A' b.length c'] w (ChEnd w wantsAnd a b) := by
  have hch := (callsIn_wide (n := 9)).1 (chosenAnd_in 9 (Nat.le_of_ble_eq_true rfl) A A' c c' a b w hs hs' hlc hc hlc' hc' hl hka hkb)
  have HC := Lib.hid hch
  clear hch hs hs' hlc hc hlc' hc' hl hka hkb
  go_enter Try.func19, Try.ntmps19
  go_wp2_with fail
  refine HC.out.mono ?_
  rintro e W' ⟨⟨h1, h2, l, v, h3, h4, rfl, h5⟩ | ⟨h1, rfl⟩, hb⟩
  · have HE := Lib.hid (show ChEnd w wantsAnd a b _ W' from ⟨.inl ⟨h1, h2, l, v, h3, h4, rfl, h5⟩, hb⟩)
    clear h1 h2 h3 h4 h5 hb
    go_wp2
    go_ret2
    exact HE.out
  · have HE := Lib.hid (show ChEnd w wantsAnd a b _ W' from ⟨.inr ⟨h1, rfl⟩, hb⟩)
    clear h1 hb
    go_wp2
    go_ret2
    exact HE.out
set_option maxHeartbeats 400000 in
theorem spanMinus_any (A A' : Option Addr) (c c' : Nat) (a b : List Sp) (w : World) (hs : SlS w w.heap.size A a) (hs' : SlS w w.heap.size A' b) (hlc : a.length ≤ c) (hc : c ≤ maxLen) (hlc' : b.length ≤ c') (hc' : c' ≤ maxLen)
    (hl : 2 * a.length + 2 * b.length ≤ 1000) (hka : ∀ s ∈ a, SpOk s) (hkb : ∀ s ∈ b, SpOk s) :
    Calls Try.prog 20 #[.slice A a.length c, .slice A' b.length c'] w (ChEnd w wantsMinus a b) := by
  have hch := (callsIn_wide (n := 9)).1 (chosenMinus_in 9 (Nat.le_of_ble_eq_true rfl) A A' c c' a b w hs hs' hlc hc hlc' hc' hl hka hkb)
  have HC := Lib.hid hch
  clear hch hs hs' hlc hc hlc' hc' hl hka hkb
  go_enter Try.func20, Try.ntmps20
  go_wp2_with fail
  refine HC.out.mono ?_
  rintro e W' ⟨⟨h1, h2, l, v, h3, h4, rfl, h5⟩ | ⟨h1, rfl⟩, hb⟩
  · have HE := Lib.hid (show ChEnd w wantsMinus a b _ W' from ⟨.inl ⟨h1, h2, l, v, h3, h4, rfl, h5⟩, hb⟩)
    clear h1 h2 h3 h4 h5 hb
    go_wp2
    go_ret2
    exact HE.out
  · have HE := Lib.hid (show ChEnd w wantsMinus a b _ W' from ⟨.inr ⟨h1, rfl⟩, hb⟩)
    clear h1 hb
    go_wp2
    go_ret2
    exact HE.out
end Go.Proofs.Ytefekkcmoambhaa

/-
  CONTRACTS: slices.Values, AppendSeq, Collect (of spans).
-/
namespace Go.Proofs.Ytefekkcmoambhaa
open Go.RowKit Go.Shelf
attribute [local go_sem] Oper.semAt_some

/-- One round of the loop that is handed spans. -/
def HandsV (B l N : Nat) (J Jx : List Sp → World → Prop) : Prop :=
  ∀ m pre (x : Sp) W, J pre W → pre.length < N → YieldAt Fence.wide m Try.prog l #[.agg #[.int .i64 x.1, .int .i64 x.2]] W fun e W' =>
    (e = .returned (.bool true) ∧ J (pre ++ [x]) W' ∧ Below B W W') ∨ (e = .returned (.bool false) ∧ Jx (pre ++ [x]) W')

set_option maxRecDepth 100000 in
set_option maxHeartbeats 1000000 in
theorem values_in (w : World) (B lp C Bv : Nat) (A : Option Addr) (c : Nat) (l : List Sp) (J Jx : List Sp → World → Prop) (hA : AbidesFrom C J) (hY : HandsV B lp l.length J Jx) (n : Nat)
    (W : World) (hBW : B ≤ W.heap.size) (hwW : Below B w W) (hs : SlS w B A l) (hl : l.length ≤ 100000) (hb : W.cell? ⟨Bv, 0, none⟩ = some (.slice A l.length c)) (hJ : J [] W) :
    CallsIn Fence.wide n Try.prog 94 #[.func (.yield lp) #[] #[], .pointer (some ⟨Bv, 0, none⟩)] W fun e W' =>
      (∃ v, e = .returned v) ∧ (J l W' ∨ ∃ q, q <+: l ∧ Jx q W') := by
  refine callsIn_of_wp Try.func94 rfl trivial ?_ rfl
  simp only [Try.ntmps94, List.size_toArray, List.length_cons, List.length_nil, Nat.reduceAdd, Nat.reduceSub, Array.replicate_succ, Array.replicate_zero, List.push_toArray, List.append_toArray, List.nil_append, List.cons_append]
  have HS := Lib.hid hs
  have HWW := Lib.hid hwW
  clear hs hwW
  gi_wp2
  clear hb
  gi_loopw [4, 7] (fun _ y wr => ∃ j : Nat, y = .int .i64 (j : Int) ∧ j ≤ l.length ∧ J (l.take j) wr ∧ Hid (Below B w wr) ∧ B ≤ wr.heap.size) (fun _ y _ => l.length - (intOf y).toNat)
  case atStart => exact ⟨0, rfl, by omega, by rw [List.take_zero]; exact hJ, HWW.out, hBW⟩
  case round =>
    obtain ⟨j, rfl, hj, hJk, HB, hBr⟩ := hrel
    clear hJ
    by_cases hjl : j < l.length
    · have hji : (j : Int) < (l.length : Int) := by omega
      obtain ⟨b, o, rfl, _, hp⟩ := (HS.out.next HB.out (Nat.le_refl _)).at_ hjl
      have hts := List.take_succ_eq_append_getElem hjl
      obtain ⟨⟨x, y⟩, hse⟩ : ∃ s, l[j] = s := ⟨_, rfl⟩
      rw [hse] at hp hts
      have c0 := hp.c0
      have c1 := hp.c1
      have HTS := Lib.hid hts
      have hJ4 : J (l.take j) (wr.alloc (.cells #[.int .i64 x, .int .i64 y] 74)) := abides_to hA hJk ((Below.refl _ _).alloc (Nat.le_refl _) _)
      obtain ⟨fn, tmps, assign, body, hy, hR⟩ := hY (n - 1) (l.take j) (x, y) (wr.alloc (.cells #[.int .i64 x, .int .i64 y] 74)) hJ4 (by rw [List.length_take]; omega)
      have hy' : (Instr.yield lp #[.agg #[.int .i64 x, .int .i64 y]]).run Try.prog (wr.alloc (.cells #[.int .i64 x, .int .i64 y] 74)) = .ok (.round lp fn tmps assign body) (wr.alloc (.cells #[.int .i64 x, .int .i64 y] 74)) := hy
      have HB4 := Lib.hid (HB.out.alloc hBr (.cells #[.int .i64 x, .int .i64 y] 74))
      have hz4 : B ≤ (wr.alloc (.cells #[.int .i64 x, .int .i64 y] 74)).heap.size := by simp; omega
      have HPR := Lib.hid (List.take_prefix (j + 1) l)
      clear hp hse hts hy hJ4
      gi_wp2
      refine ⟨wide_deep _, ?_⟩
      refine hR.mono ?_
      rintro e W5 (⟨rfl, hJ5, hk5⟩ | ⟨rfl, hJx5⟩)
      · gi_wp2
        go_roundw
        case rel => exact ⟨j + 1, by go_num, by omega, by rw [HTS.out]; exact hJ5, HB4.out.trans hk5, by have := hk5.size; omega⟩
        case measure => simp [intOf]; omega
      · gi_wp2
        refine bodyPost_ret (results_none rfl _ _ _) rfl ?_
        exact ⟨⟨_, rfl⟩, .inr ⟨l.take (j + 1), HPR.out, by rw [HTS.out]; exact hJx5⟩⟩
    · have hji : ¬ (j : Int) < (l.length : Int) := by omega
      rw [List.take_of_length_le (by omega)] at hJk
      gi_wp2
      go_end0
      exact ⟨⟨_, rfl⟩, .inl hJk⟩

theorem values_stops (n : Nat) (B Bv : Nat) (A : Option Addr) (c : Nat) (l : List Sp) (w : World) (hB : B ≤ w.heap.size) (hBv : Bv < w.heap.size) (hs : SlS w B A l) (hl : l.length ≤ 100000) (hb : w.cell? ⟨Bv, 0, none⟩ = some (.slice A l.length c)) :
    SeqStopsK Fence.wide n Try.prog 94 #[.pointer (some ⟨Bv, 0, none⟩)] (fun x : Sp => #[.agg #[.int .i64 x.1, .int .i64 x.2]]) (Below B) (fun ys => ys = l) (fun q => q <+: l) l.length w := fun lp J Jx W hW hA _ hY h0' => by
  have hH : HandsV B lp l.length J Jx := fun m pre x W1 hj hl => YieldAt.anyDepth m (hY pre x W1 hj hl)
  have g0 := (hW.cell (p := ⟨Bv, 0, none⟩) hBv).trans hb
  refine (values_in w B lp W.heap.size Bv A c l J Jx hA hH n W (Nat.le_trans hB hW.size) (hW.mono hB) hs hl g0 h0').mono ?_
  rintro e W' ⟨hv, hj | ⟨q, hq, hx⟩⟩
  · exact ⟨hv, .inl ⟨_, rfl, hj⟩⟩
  · exact ⟨hv, .inr ⟨q, hq, hx⟩⟩

set_option maxHeartbeats 400000 in
theorem valuesOf_any (A : Option Addr) (n c : Nat) (w : World) :
    Calls Try.prog 54 #[.slice A n c] w fun e w' => e = .returned (.func (.func 94) #[] #[.pointer (some ⟨w.heap.size, 0, none⟩)]) ∧ w' = w.alloc (.cells #[.slice A n c] 28) := by
  go_enter Try.func54, Try.ntmps54
  go_wp2
  go_ret
  exact ⟨rfl, rfl⟩

/-- what stands behind some rounds of AppendSeq -/
def VMid (w : World) (N : Nat) (pre : List Sp) (W : World) : Prop :=
  ∃ v, Boxed W w.heap.size 28 v ∧ OwnS W w.heap.size v pre ∧ Below w.heap.size w W ∧ pre.length ≤ N
theorem vMid_own (w : World) (N : Nat) : OwnFrom (w.heap.size + 1) (VMid w N) := fun pre X Y row ⟨v, g1, g2, g6, g8⟩ hg hr => by
  have hne : ∀ b, b < w.heap.size + 1 → some b ≠ row := fun b hb e => by have := (hr b e.symm).1; omega
  exact ⟨v, g1.kept hg (hne _ (by omega)), g2.kept hg (fun r e => (hr r e).2), g6.grown hg g6.size (fun j ej => by have := (hr j ej).1; omega), g8⟩
theorem VMid.alloc {w : World} {N : Nat} {pre : List Sp} {W : World} (h : VMid w N pre W) (o : Obj) : VMid w N pre (W.alloc o) := by
  obtain ⟨v, g1, g2, g6, g8⟩ := h
  exact ⟨v, g1.alloc _, g2.alloc _, g6.alloc g6.size _, g8⟩

set_option maxRecDepth 100000 in
set_option maxHeartbeats 1000000 in
theorem appendSeq_in (m : Nat) (hm3 : Hid (3 ≤ m)) (Bv : Nat) (A : Option Addr) (c : Nat) (l : List Sp) (w : World) (hBv : Bv < w.heap.size) (hs : SlS w w.heap.size A l) (hl : l.length ≤ 100000) (hb : w.cell? ⟨Bv, 0, none⟩ = some (.slice A l.length c)) :
    CallsIn Fence.wide m Try.prog 130 #[.slice none 0 0, .func (.func 94) #[] #[.pointer (some ⟨Bv, 0, none⟩)]] w fun e w' => ∃ v, e = .returned v ∧ OwnS w' w.heap.size v l ∧ Below w.heap.size w w' := by
  obtain ⟨i0, hi, hz0, hz1, hz2⟩ := info_parts info92
  have hmx : 100001 ≤ maxLen := by decide
  refine callsIn_of_wp_marks Try.func130 rfl trivial ?_ rfl
  simp only [Try.ntmps130, List.size_toArray, List.length_cons, List.length_nil, Nat.reduceAdd, Nat.reduceSub, Array.replicate_succ, Array.replicate_zero, List.push_toArray, List.append_toArray, List.nil_append, List.cons_append]
  have HS := Lib.hid hs
  have HBC := Lib.hid hb
  clear hs hb
  gi_wp2_with fail
  obtain ⟨W2, hW2⟩ : ∃ W2, w.alloc (.cells #[.slice none 0 0] 28) = W2 := ⟨_, rfl⟩
  have hz : W2.heap.size = w.heap.size + 1 := by rw [← hW2]; simp
  have hBw : Below w.heap.size w W2 := by rw [← hW2]; exact (Below.refl _ _).alloc (Nat.le_refl _) _
  have hP : Boxed W2 w.heap.size 28 (.slice none 0 0) := by rw [← hW2]; exact Boxed.new _ _ _
  rw [hW2]
  clear hW2
  have hro : Fence.wide.round = none := rfl
  refine wpIn_rangeFunc_ownH hro (by have := hm3.out; omega) (gf := 94) (lb := #[.pointer (some ⟨Bv, 0, none⟩)]) rfl trivial (enters_of Try.func94 (by kernel_rfl) rfl)
    (values_stops (m - 1) w.heap.size Bv A c l W2 (by omega) (by omega) (HS.out.next hBw (Nat.le_refl _)) hl ((hBw.cell (p := ⟨Bv, 0, none⟩) hBv).trans HBC.out))
    (fun h k => h.trans k) (fun W l o o' hl h h1 h2 => belowK_b (w := W2) (n₀ := w.heap.size) (by omega) W l o o' hl h h1 h2) (Below.refl _ _) (fun _ => rfl)
    (VMid w l.length) (fun _ _ _ => False) (by rw [hz]; exact vMid_own _ _) (fun _ _ _ _ _ h => h.elim)
    ⟨_, hP, ownS_nil _ _, hBw, by simp⟩
    (fun x a' W => ∃ g, SpBox W g x ∧ a' = { tmps := #[.slice none 0 0, .func (.func 94) #[] #[.pointer (some ⟨Bv, 0, none⟩)], .pointer (some ⟨w.heap.size, 0, none⟩), undef, .slice none 0 0, .pointer (some ⟨g, 0, none⟩), .func (.func 94) #[] #[.pointer (some ⟨Bv, 0, none⟩)], .agg #[.int .i64 x.1, .int .i64 x.2], undef, undef, undef, undef, undef], defers := [] })
    (fun x a' _ X Y row ⟨g, hg, e⟩ hgr hr => ⟨g, hg.kept hgr (fun r e => (hr r e).2), e⟩) ?assign ?body ?done ?stop
  case assign =>
    rintro lp pre x W K hM hK
    gi_wp2
    exact hK _ _ (keepsFrom_below ((Below.refl _ W).alloc (Nat.le_refl _) _)) ((Below.refl _ W).alloc (by obtain ⟨_, _, _, h6, _⟩ := hM; exact h6.size) _) (hM.alloc _) ⟨W.heap.size, heap_alloc_new W _, rfl⟩
  case body =>
    rintro lp pre ⟨x0, x1⟩ a' W hwl _ ⟨v, h1, h2, h6, h8⟩ ⟨g, hg, rfl⟩ hlt
    have b0 := h1.cell
    have b1 := h1.frozen
    have k0 := hg.cell 0
    have k1 := hg.cell 1
    simp at k0 k1
    have hbz := h6.size
    gi_wp2_with (gi_at_builtin; refine wpListIn_append_own _ rfl _ _ 28 rfl w.heap.size 74 i0 (.agg #[.int .i64 0, .int .i64 0]) 2 16 Try.underlying28 hi hz0 hz1 hz2 rfl (by decide) _ _ _ rfl (h2.alloc _) ⟨W.heap.size, 0, none⟩ 1 1 (cellsS (x0, x1)) rfl rfl (fun j u h => cell_lit _ _ _ j u h) (cellsS_one _) (by omega) (by omega) (by simp; omega) ?_; intro v' w3 hown' hgrow _; obtain ⟨g', cap', rfl⟩ := ownsRow_succ hown'; obtain ⟨hv1, hv2, hr2, hk2, hb2⟩ := h1.appended (by decide) h2 h6.size (Nat.le_refl _) hown' hgrow; have y0 := hv1.cell; have y1 := hv1.frozen)
    have hr3 : OwnS (w3.setCell ⟨w.heap.size, 0, none⟩ (.slice (some ⟨g', 0, none⟩) (pre.length + 1) cap')) w.heap.size (.slice (some ⟨g', 0, none⟩) (pre.length + 1) cap') (pre ++ [(x0, x1)]) := by
      show World.ownsRow _ _ _ _ _ _ _
      simpa using hr2
    exact ⟨hk2.from _, hb2, _, hv2, hr3, h6.trans hb2, by rw [List.length_append]; simp; omega⟩
  case done =>
    rintro D ys W hD hys ⟨v, h1, h2, h6, h8⟩ hK
    obtain ⟨A9, c9, rfl, _, _, _⟩ := h2.sls
    have b0 := h1.cell
    subst hys
    have HE := Lib.hid (And.intro (h2.kept (grownBy_putObj' W D (.deferred none)) (fun r e => by injection e with e; subst e; exact ⟨_, hK, rfl⟩)) (h6.trans (belowK_b (w := W2) (n₀ := w.heap.size) (by omega) W D _ (.deferred none) hD hK rfl rfl)))
    clear h1 h2 h6 h8
    gi_wp2
    refine ⟨by simp, .inl ⟨_, _, rfl, run_takeDeferred hK, ?_⟩⟩
    exact ⟨_, results_tmp rfl _ _ _, by exact ⟨_, rfl, HE.out.1, HE.out.2⟩⟩
  case stop =>
    rintro D cd pre W _ _ h _
    exact h.elim

set_option maxHeartbeats 400000 in
theorem collect_any (Bv : Nat) (A : Option Addr) (c : Nat) (l : List Sp) (w : World) (hBv : Bv < w.heap.size) (hs : SlS w w.heap.size A l) (hl : l.length ≤ 100000) (hb : w.cell? ⟨Bv, 0, none⟩ = some (.slice A l.length c)) :
    Calls Try.prog 92 #[.func (.func 94) #[] #[.pointer (some ⟨Bv, 0, none⟩)]] w fun e w' => ∃ v, e = .returned v ∧ OwnS w' w.heap.size v l ∧ Below w.heap.size w w' := by
  have hch := (callsIn_wide (n := 9)).1 (appendSeq_in 9 (Nat.le_of_ble_eq_true rfl) Bv A c l w hBv hs hl hb)
  have HC := Lib.hid hch
  clear hch hs hb
  go_enter Try.func92, Try.ntmps92
  go_wp2_with fail
  refine HC.out.mono ?_
  rintro e w' ⟨v, rfl, ho, hb⟩
  obtain ⟨A9, c9, rfl, _, _, _⟩ := ho.sls
  have HE := Lib.hid (And.intro ho hb)
  clear ho hb
  go_wp2
  go_ret
  exact ⟨_, rfl, HE.out.1, HE.out.2⟩
end Go.Proofs.Ytefekkcmoambhaa

/-
  CONTRACTS: SortedFunc (of spans), Make (of spans that are there).
-/
namespace Go.Proofs.Ytefekkcmoambhaa
open Go.RowKit Go.Shelf
open Go.Sort (SWO SortedIn PermIn grow grow_grow alloc_eq_grow putRow mapBlock flatK get_flatK size_flatK HoldsK putRowK holdsK_putRowK)

def cfS (x y : Sp) : Int := ordI x.1 y.1
theorem ltS (x y : Sp) : ltOf cfS x y = decide (x.1 < y.1) := by
  unfold ltOf cfS ordI
  by_cases h1 : x.1 < y.1
  · simp [h1]
  · by_cases h2 : y.1 < x.1 <;> simp [h1, h2]
theorem swoS : SWO (ltOf cfS) where
  irrefl x := by rw [ltS]; simp
  trans x y z h1 h2 := by rw [ltS] at *; simp at *; omega
  ntrans x y z h1 h2 := by rw [ltS] at *; simp at *; omega
set_option maxHeartbeats 1000000 in
theorem make1_any (x y : Sp) (W : World) : Calls Try.prog 55 #[.agg #[.int .i64 x.1, .int .i64 x.2], .agg #[.int .i64 y.1, .int .i64 y.2]] W fun e w' => e = .returned (.int .i64 (cfS x y)) ∧ ∃ q os', w' = grow (W.drewN q) os' := by
  have hcon := fun W' => cmpI64_any x.1 y.1 W'
  have HR : Hid (cfS x y = ordI x.1 y.1) := rfl
  obtain ⟨r, hr⟩ : ∃ r, ordI x.1 y.1 = r := ⟨_, rfl⟩
  rw [hr] at hcon HR
  have HC := Lib.hid hcon
  clear hr hcon
  go_enter Try.func55, Try.ntmps55
  go_wp2_with fail
  refine (HC.out _).mono ?_
  rintro e w' ⟨rfl, rfl⟩
  go_wp2
  go_ret
  exact ⟨by rw [HR.out]; rfl, 0, _, by rw [alloc_eq_grow, alloc_eq_grow, grow_grow]; rfl⟩
theorem cmpLaysS (blk off size : Nat) (w : World) : CmpLays Try.prog 55 #[] cellsS 2 cfS blk off size w :=
  fun _ _ _ _ x y => make1_any x y _

theorem flatK_at (l : List Sp) (t : Nat) (ht : t < l.length * 2) : (flatK cellsS 2 l.toArray)[t]! = ((l.flatMap cellsS)[t]?).getD default := by
  rw [get_flatK _ _ _ _ (by simpa using ht)]
  have e : t = t / 2 * 2 + t % 2 := by omega
  have hj : t / 2 < l.length := by omega
  have h2 := flatS (l := l) (j := t / 2) (i := t % 2) (by omega)
  rw [← e] at h2
  rw [h2, List.getElem?_eq_getElem hj]
  have h3 : (l.toArray)[t / 2]! = l[t / 2] := by
    rw [getElem!_pos _ _ (by simpa using hj)]; simp
  rw [h3]
  have h4 : t % 2 < (cellsS l[t / 2]).length := by show _ < 2; omega
  simp only [Option.bind_some]
  rw [List.getElem?_eq_getElem h4, getElem!_pos (cellsS l[t / 2]) (t % 2) h4]
  rfl
theorem holds_own {W : World} {B g cap : Nat} {l : List Sp} (h : OwnS W B (.slice (some ⟨g, 0, none⟩) l.length cap) l) : HoldsK cellsS 2 W g 0 l.toArray := fun j hj => by
  have hr : W.ownsRow B 74 2 (.slice (some ⟨g, 0, none⟩) l.length cap) l.length (l.flatMap cellsS) := h
  have hj2 : j < l.length * 2 := by rw [size_flatK] at hj; simpa using hj
  have hjl : j < (l.flatMap cellsS).length := by rw [flatS_len]; exact hj2
  rw [Nat.zero_add, hr.cellAt j hj2, flatK_at l j hj2, List.getElem?_eq_getElem hjl]
  exact ⟨rfl, hr.frozenAt j⟩
theorem sls_holds {W : World} {g : Nat} {d : Array Sp} (hg : g < W.heap.size) (h : HoldsK cellsS 2 W g 0 d) : SlS W W.heap.size (some ⟨g, 0, none⟩) d.toList := fun _ => by
  refine ⟨g, 0, rfl, hg, fun j s hs => ?_⟩
  obtain ⟨hj, e⟩ := List.getElem?_eq_some_iff.1 hs
  have hjd : j < d.size := by simpa using hj
  have k : ∀ i, i < 2 → W.cell? ⟨g, 0 + j * 2 + i, none⟩ = (cellsS s)[i]? := fun i hi => by
    have h1 := (h (j * 2 + i) (by rw [size_flatK]; omega)).1
    have h2 := flatK_at d.toList (j * 2 + i) (by simp; omega)
    rw [Array.toArray_toList] at h2
    rw [h2, flatS hi, hs] at h1
    have h4 : i < (cellsS s).length := by show _ < 2; omega
    rw [show 0 + j * 2 + i = 0 + (j * 2 + i) from by omega, h1, Option.bind_some, List.getElem?_eq_getElem h4]
    rfl
  exact ⟨k 0 (by omega), k 1 (by omega)⟩
theorem sort_below {w : World} {n0 blk n : Nat} {d : Array Sp} {os : Array Obj} (h1 : n0 ≤ blk) (h2 : blk < w.heap.size) : Below n0 w (sortWorldK cellsS 2 w blk 0 n d os) := by
  have hsz : (putRowK cellsS 2 (Sort.ahead w n) blk 0 d).heap.size = w.heap.size := by simp [putRowK, putRow, mapBlock, Sort.ahead]
  refine ⟨rfl, rfl, rfl, ?_, fun k hk => ?_⟩
  · show w.heap.size ≤ ((putRowK cellsS 2 (Sort.ahead w n) blk 0 d).heap ++ os).size
    rw [Array.size_append, hsz]; omega
  · show ((putRowK cellsS 2 (Sort.ahead w n) blk 0 d).heap ++ os)[k]? = _
    rw [Array.getElem?_append_left (by rw [hsz]; omega)]
    show (w.heap.modify blk _)[k]? = _
    rw [Array.getElem?_modify, if_neg (by omega)]
theorem sort_holds {w : World} {blk n : Nat} {d d' : Array Sp} {os : Array Obj} (h2 : blk < w.heap.size) (h : HoldsK cellsS 2 w blk 0 d) (hs : d'.size = d.size) : HoldsK cellsS 2 (sortWorldK cellsS 2 w blk 0 n d' os) blk 0 d' := by
  have h3 : HoldsK cellsS 2 (putRowK cellsS 2 (Sort.ahead w n) blk 0 d') blk 0 d' := holdsK_putRowK cellsS 2 (Sort.ahead w n) blk 0 d d' h hs
  have hsz : (putRowK cellsS 2 (Sort.ahead w n) blk 0 d').heap.size = w.heap.size := by simp [putRowK, putRow, mapBlock, Sort.ahead]
  have hb : (sortWorldK cellsS 2 w blk 0 n d' os).heap[blk]? = (putRowK cellsS 2 (Sort.ahead w n) blk 0 d').heap[blk]? := Array.getElem?_append_left (by rw [hsz]; exact h2)
  intro j hj
  have h4 := h3 j hj
  rw [World.cell?_of_block (w := putRowK cellsS 2 (Sort.ahead w n) blk 0 d') (a := ⟨blk, 0 + j, none⟩) hb, World.frozen?_of_block (w := putRowK cellsS 2 (Sort.ahead w n) blk 0 d') (a := ⟨blk, 0 + j, none⟩) hb]
  exact h4
/-- rising by where they begin -/
def RiseS (l : List Sp) : Prop := l.Pairwise fun p q => p.1 ≤ q.1
theorem rise_of {d : Array Sp} (h : SortedIn (ltOf cfS) 0 d.size d) : RiseS d.toList := by
  refine List.pairwise_iff_getElem.2 fun i j hi hj hij => ?_
  have hi' : i < d.size := by simpa using hi
  have hj' : j < d.size := by simpa using hj
  have h1 := h i j (by omega) hij hj'
  rw [ltS, decide_eq_false_iff_not, getElem!_pos d j hj', getElem!_pos d i hi'] at h1
  simp only [Array.getElem_toList]
  omega

set_option maxRecDepth 100000 in
set_option maxHeartbeats 1000000 in
theorem sortedF_any (Bv : Nat) (A : Option Addr) (c : Nat) (l : List Sp) (w : World) (hBv : Bv < w.heap.size) (hs : SlS w w.heap.size A l) (hl : l.length ≤ 100000) (h0 : 0 < l.length) (hb : w.cell? ⟨Bv, 0, none⟩ = some (.slice A l.length c)) :
    Calls Try.prog 53 #[.func (.func 94) #[] #[.pointer (some ⟨Bv, 0, none⟩)], .func (.func 55) #[] #[]] w fun e w' =>
      ∃ A' c' l', e = .returned (.slice A' l'.length c') ∧ SlS w' w'.heap.size A' l' ∧ l'.Perm l ∧ RiseS l' ∧ Below w.heap.size w w' := by
  have HC := Lib.hid (collect_any Bv A c l w hBv hs hl hb)
  clear hs hb
  go_enter Try.func53, Try.ntmps53
  go_wp2_with fail
  refine HC.out.mono ?_
  rintro e w1 ⟨v, rfl, ho, hb1⟩
  obtain ⟨m, hm⟩ : ∃ m, l.length = m + 1 := ⟨l.length - 1, by omega⟩
  obtain ⟨g, cap, rfl⟩ := ownsRow_succ (OwnS.row ho hm)
  rw [← hm] at ho
  rw [← hm]
  have hgl := (ho.lt g rfl)
  have eg : ∀ args w, (callFunc 55 args).run Try.prog w = .ok (.enter 55 args) w := enters_of Try.func55 (by kernel_rfl) rfl
  have hcon := AnyQ.slices_SortFunc Try.sortSpan 2 Try.isAgg74 Try.sizeOf74 cellsS (fun _ => rfl) cellsS_one cfS swoS 55 #[] g 0 cap l.toArray w1 eg (cmpLaysS g 0 _ w1) (holds_own ho) hgl.2 (by simp; omega)
  change Calls Try.prog 93 #[.slice (some ⟨g, 0, none⟩) l.length cap, _] _ _ at hcon
  have HCON := Lib.hid hcon
  have HH := Lib.hid (holds_own ho)
  have HB1 := Lib.hid hb1
  clear hcon ho hb1 hm
  go_wp2_with fail
  refine HCON.out.mono ?_
  rintro e w2 ⟨rfl, d', nn, os, hp, hsd, rfl⟩
  have hsz : d'.size = l.length := by have := hp.1; simpa using this
  have hpm : d'.toList.Perm l := by
    have h9 := hp.2.2
    rw [show l.toArray.size = d'.size from hp.1.symm, Array.extract_size] at h9
    have e1 : l.toArray.extract 0 d'.size = l.toArray := by rw [hsz]; simp
    rw [e1] at h9
    simpa using h9
  have hrs : RiseS d'.toList := rise_of (by rw [hsz]; simpa using hsd)
  have HE := Lib.hid (show ∃ A' c' l', Ending.returned (.slice (some ⟨g, 0, none⟩) l.length cap) = .returned (.slice A' l'.length c') ∧ SlS (sortWorldK cellsS 2 w1 g 0 nn d' os) (sortWorldK cellsS 2 w1 g 0 nn d' os).heap.size A' l' ∧ l'.Perm l ∧ RiseS l' ∧ Below w.heap.size w (sortWorldK cellsS 2 w1 g 0 nn d' os) from
    ⟨some ⟨g, 0, none⟩, cap, d'.toList, by rw [show d'.toList.length = l.length from by simpa using hsz], sls_holds (Nat.lt_of_lt_of_le hgl.2 (sort_below (n0 := 0) (Nat.zero_le _) hgl.2).size) (sort_holds hgl.2 HH.out (by simpa using hp.1)), hpm, hrs, HB1.out.trans (sort_below hgl.1 hgl.2)⟩)
  clear hp hsd hsz hpm hrs
  go_wp2
  go_ret
  exact HE.out
set_option maxRecDepth 100000 in
set_option maxHeartbeats 1000000 in
theorem sortedF_none (Bv : Nat) (A : Option Addr) (c : Nat) (w : World) (hBv : Bv < w.heap.size) (hb : w.cell? ⟨Bv, 0, none⟩ = some (.slice A 0 c)) :
    Calls Try.prog 53 #[.func (.func 94) #[] #[.pointer (some ⟨Bv, 0, none⟩)], .func (.func 55) #[] #[]] w fun e w' =>
      ∃ A' c', e = .returned (.slice A' 0 c') ∧ Below w.heap.size w w' := by
  have HC := Lib.hid (collect_any Bv A c [] w hBv (fun h => absurd rfl h) (by simp) hb)
  clear hb
  go_enter Try.func53, Try.ntmps53
  go_wp2_with fail
  refine HC.out.mono ?_
  rintro e w1 ⟨v, rfl, ho, hb1⟩
  obtain ⟨A9, c9, rfl, _, _, _⟩ := ho.sls
  have HB1 := Lib.hid hb1
  clear ho hb1
  have hcon := AnyF.slices_SortFunc_none Try.sortSpan A9 c9 (.func (.func 55) #[] #[]) w1
  change Calls Try.prog 93 #[.slice A9 0 c9, _] _ _ at hcon
  have HCON := Lib.hid hcon
  clear hcon
  simp only [List.length_nil]
  go_wp2_with fail
  refine HCON.out.mono ?_
  rintro e w2 ⟨rfl, rfl⟩
  go_wp2
  go_ret
  exact ⟨_, _, rfl, HB1.out⟩
theorem sortedF_all (Bv : Nat) (A : Option Addr) (c : Nat) (l : List Sp) (w : World) (hBv : Bv < w.heap.size) (hs : SlS w w.heap.size A l) (hl : l.length ≤ 100000) (hb : w.cell? ⟨Bv, 0, none⟩ = some (.slice A l.length c)) :
    Calls Try.prog 53 #[.func (.func 94) #[] #[.pointer (some ⟨Bv, 0, none⟩)], .func (.func 55) #[] #[]] w fun e w' =>
      ∃ A' c' l', e = .returned (.slice A' l'.length c') ∧ SlS w' w'.heap.size A' l' ∧ l'.Perm l ∧ RiseS l' ∧ Below w.heap.size w w' := by
  cases l with
  | nil => exact (sortedF_none Bv A c w hBv hb).mono fun e w' ⟨A', c', he, h⟩ => ⟨A', c', [], he, fun h => absurd rfl h, List.Perm.refl _, List.Pairwise.nil, h⟩
  | cons s r => exact sortedF_any Bv A c (s :: r) w hBv hs hl (by simp) hb
end Go.Proofs.Ytefekkcmoambhaa
