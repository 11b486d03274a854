/-
  CONTRACT: Parse (the program's).
-/
import Derived.Laws.AppendOwn
import Derived.Test.YtfonmgpkbgdniaaGreatDoorJSSplit
import Derived.Test.YtfonmgpkbgdniaaGreatDoorJSAdd
namespace Go.Proofs.YtfonmgpkbgdniaaGreatDoor
open Go.RowKit Go.Shelf
attribute [local go_sem] Oper.semAt_some

/-- the spans that have been read of pieces -/
def RdL (ps : List ByteArray) (l : List Sp) : Prop := ps.length = l.length ∧ AllOk l ∧ ∀ (i : Nat) (p : ByteArray) (x : Sp), ps[i]? = some p → l[i]? = some x → ∀ y : Sp, SpOk y → dl p = oneT y → x = y
theorem rdL_nil : RdL [] [] := ⟨rfl, (fun _ h => by cases h), fun i p x h => by simp at h⟩
theorem rdL_snoc {ps : List ByteArray} {l : List Sp} {p : ByteArray} {x : Sp} (h : RdL ps l) (hx : SpOk x) (hp : ∀ y, SpOk y → dl p = oneT y → x = y) : RdL (ps ++ [p]) (l ++ [x]) := by
  obtain ⟨h1, h2, h3⟩ := h
  refine ⟨by simp [h1], fun s hs => ?_, fun i q z hq hz y hy e => ?_⟩
  · rcases List.mem_append.1 hs with h | h
    · exact h2 s h
    · rw [List.mem_singleton.1 h]; exact hx
  · by_cases hi : i < ps.length
    · rw [List.getElem?_append_left hi] at hq
      rw [List.getElem?_append_left (by omega)] at hz
      exact h3 i q z hq hz y hy e
    · rw [List.getElem?_append_right (by omega)] at hq hz
      rw [← h1] at hz
      cases hk : i - ps.length with
      | zero =>
        rw [hk] at hq hz
        simp at hq hz
        subst hq hz
        exact hp y hy e
      | succ k => rw [hk] at hq; simp at hq
theorem rdL_all {ps : List ByteArray} {l m : List Sp} {s : List UInt8} (h : RdL ps l) (hs : ps.map dl = splitL s) (hm : m ≠ []) (hok : AllOk m) (e : bodyT m = s) : l = m := by
  rw [← e, splitL_body hm] at hs
  obtain ⟨h1, _, h3⟩ := h
  have hlen := congrArg List.length hs
  rw [List.length_map, List.length_map] at hlen
  apply List.ext_getElem (by omega)
  intro i a b
  have hi := congrArg (fun z => z[i]?) hs
  simp only [List.getElem?_map] at hi
  rw [List.getElem?_eq_getElem (show i < ps.length by omega), List.getElem?_eq_getElem b] at hi
  simp at hi
  exact h3 i _ _ (List.getElem?_eq_getElem (by omega)) (List.getElem?_eq_getElem a) _ (hok _ (List.getElem_mem b)) hi
/-- What Parse answers. -/
def ParseRd (w : World) (s : List UInt8) (e : Ending) (w' : World) : Prop :=
  ((∃ l v, e = .returned (.tuple #[v, .int .i64 0]) ∧ OwnS w' w.heap.size v l ∧ AllOk l ∧ SetL l ∧ textT l = s) ∨ (e = .returned (.tuple #[.slice none 0 0, .int .i64 30]) ∧ ∀ l, AllOk l → SetL l → textT l ≠ s)) ∧ Below w.heap.size w w'
theorem no_of {s : List UInt8} (h0 : s ≠ [110, 111, 110, 101]) (h : ∀ m, m ≠ [] → AllOk m → SetL m → bodyT m ≠ s) : ∀ l, AllOk l → SetL l → textT l ≠ s := (says_none h0 h).2 rfl

/-- what stands while pieces are read: the results' boxes, the list's, the spans read -/
def PMid (w : World) (B : Nat) (pre : List ByteArray) (W : World) : Prop :=
  ∃ l v, RdL pre l ∧ Boxed W B 24 (.slice none 0 0) ∧ Boxed W (B + 1) 25 (.int .i64 0) ∧ Boxed W (B + 1 + 1) 24 v ∧ OwnS W B v l ∧ Below B w W ∧ B + 6 ≤ W.heap.size ∧ (∃ u, Boxed W (B + 1 + 1 + 1) 9 u) ∧ Boxed W (B + 1 + 1 + 1 + 1) 9 (.string ⟨#[32]⟩) ∧ Boxed W (B + 1 + 1 + 1 + 2) 3 (.int .i64 0)
/-- a reader's end ahead of the text's: no span -/
def PNo (w : World) (B : Nat) (c : Code) (q : List ByteArray) (W : World) : Prop :=
  c = .ret ∧ (∃ x ∈ q, ∀ y, SpOk y → dl x ≠ oneT y) ∧ Boxed W B 24 (.slice none 0 0) ∧ Boxed W (B + 1) 25 (.int .i64 30) ∧ Below B w W
theorem boxed_from {W W' : World} {b : Nat} {t : TypeId} {v : Value} {row : Option Nat} (h : Boxed W b t v) (hg : W.grownBy W' row) (hr : ∀ r, row = some r → ∃ o : Obj, W.heap[r]? = some o ∧ o.isCells = false) : Boxed W' b t v :=
  h.kept hg (fun e => by obtain ⟨o, ho, hc⟩ := hr b e.symm; rw [show W.heap[b]? = _ from h] at ho; cases ho; cases hc)
theorem pMid_own (w : World) (B C : Nat) (hC : B ≤ C) : OwnFrom C (PMid w B) := fun pre X Y row ⟨l, v, h1, h2, h3, h4, h5, h6, h7, ⟨u, h8⟩, h9, h10⟩ hg hr =>
  ⟨l, v, h1, boxed_from h2 hg (fun r e => (hr r e).2), boxed_from h3 hg (fun r e => (hr r e).2), boxed_from h4 hg (fun r e => (hr r e).2), h5.kept hg (fun r e => (hr r e).2),
    h6.grown hg (by omega) (fun k e => by have := (hr k e).1; omega), Nat.le_trans h7 hg.size, ⟨u, boxed_from h8 hg (fun r e => (hr r e).2)⟩, boxed_from h9 hg (fun r e => (hr r e).2), boxed_from h10 hg (fun r e => (hr r e).2)⟩
theorem pNo_own (w : World) (B C : Nat) (hC : B ≤ C) (c : Code) : OwnFrom C (PNo w B c) := fun q X Y row ⟨h1, h2, h3, h4, h6⟩ hg hr =>
  ⟨h1, h2, boxed_from h3 hg (fun r e => (hr r e).2), boxed_from h4 hg (fun r e => (hr r e).2),
    h6.grown hg (by have := h3.lt; omega) (fun k e => by have := (hr k e).1; omega)⟩
theorem OwnS.other {W : World} {B b : Nat} {t : TypeId} {u v : Value} {l : List Sp} (h : OwnS W B v l) (hb : Boxed W b t u) (ht : t ≠ 23) (v' : Value) : OwnS (W.setCell ⟨b, 0, none⟩ v') B v l := by
  refine World.ownsRow.kept (row := some b) h (grownBy_setCell' W b v') ?_
  rcases h.2 with ⟨rfl, _⟩ | ⟨g, cap, cur, rfl, _⟩
  · exact .inl rfl
  · exact .inr (fun e => Boxed.not_row hb ht h (by rw [e]))
theorem pMid_store {w : World} {B : Nat} {pre : List ByteArray} {X : World} (v' : Value) (h : PMid w B pre X) : PMid w B pre (X.setCell ⟨B + 1 + 1 + 1, 0, none⟩ v') := by
  obtain ⟨l, v, h1, h2, h3, h4, h5, h6, h7, ⟨u, h8⟩, h9, h10⟩ := h
  exact ⟨l, v, h1, h2.other (by omega) _, h3.other (by omega) _, h4.other (by omega) _, h5.other h8 (by decide) _, h6.setCell (p := ⟨B + 1 + 1 + 1, 0, none⟩) (by show B ≤ B + 1 + 1 + 1; omega) _, by simpa using h7, ⟨_, h8.set _⟩, h9.other (by omega) _, h10.other (by omega) _⟩
theorem sp_results2 {fn : Func} {p q : Tmp} {ty ty' : TypeId} (h : fn.results = #[.cell p ty, .cell q ty']) (tmps : Array Value) (P : Program) (w : World) :
    (results fn tmps).run P w =
      ((asAddr (tmps.getD p undef)).run P w).andThen fun a w₁ => ((loadVar ty a).run P w₁).andThen fun v w₂ => ((asAddr (tmps.getD q undef)).run P w₂).andThen fun b w₃ => ((loadVar ty' b).run P w₃).andThen fun u w₄ => .ok (.tuple #[v, u]) w₄ := by
  simp only [results, h]
  simp [Sem.run_bind, Result.andThen]
theorem sp_keeps {W W' : World} {B : Nat} (h : Below W.heap.size W W') : KeepsFrom B W W' :=
  ⟨h.size, fun k _ _ hk _ => (h.block k (Array.getElem?_eq_some_iff.1 hk).1).trans hk⟩
theorem keep3_boxed {b : Nat} {A C : World} {t0 t1 t2 : TypeId} {v0 v1 v2 : Value} (a0 : Boxed A b t0 v0) (a1 : Boxed A (b + 1) t1 v1) (a2 : Boxed A (b + 2) t2 v2) (c0 : Boxed C b t0 v0) (c1 : Boxed C (b + 1) t1 v1) (c2 : Boxed C (b + 2) t2 v2) : Keep3 b A C := fun k h1 h2 => by
  obtain rfl | rfl | rfl : k = b ∨ k = b + 1 ∨ k = b + 2 := by omega
  · exact (show C.heap[k]? = _ from c0).trans (show A.heap[k]? = _ from a0).symm
  · exact (show C.heap[b + 1]? = _ from c1).trans (show A.heap[b + 1]? = _ from a1).symm
  · exact (show C.heap[b + 2]? = _ from c2).trans (show A.heap[b + 2]? = _ from a2).symm
theorem box_app {X w3 : World} {b B : Nat} {t : TypeId} {u v : Value} {l : List Sp} {o1 o2 : Obj} (h : Boxed X b t u) (ht : t ≠ 23) (hg : OwnS X B v l) (hgrow : ((X.alloc o1).alloc o2).grownBy w3 v.ownBlock) : Boxed w3 b t u :=
  ((h.alloc o1).alloc o2).kept hgrow (Boxed.not_row h ht hg)
theorem keep3_trans' {b : Nat} {A B C : World} (h : Keep3 b A B) (k : Keep3 b B C) : Keep3 b A C := h.trans k
theorem keep3_below {b n : Nat} {A C : World} (h : Below n A C) (hn : b + 3 ≤ n) : Keep3 b A C := fun k _ h2 => h.block k (by omega)

set_option maxRecDepth 100000 in
set_option maxHeartbeats 2000000 in
theorem parse_in (m : Nat) (hm3 : Hid (3 ≤ m)) (s : ByteArray) (w : World) (hs : s.size ≤ 5000) (herr : Errs w) (htab : TabB w.heap.size w) (hne : dl s ≠ [110, 111, 110, 101]) :
    CallsIn Fence.wide m Tryz.prog 19 #[.string s] w (ParseRd w (dl s)) := by
  obtain ⟨i0, hi, hj0, hj1, hj2⟩ := info_parts info92
  have hmx : 100001 ≤ maxLen := by decide
  have HE := Lib.hid herr
  have HT := Lib.hid htab
  have HN := Lib.hid hne
  have hq : (s.toList == [110, 111, 110, 101]) = false := by
    rw [beq_eq_false_iff_ne, ByteArray.toList_eq]; exact hne
  clear herr htab hne
  refine callsIn_of_wp_marks Tryz.func19 rfl trivial ?_ rfl
  simp only [Tryz.ntmps19, List.size_toArray, List.length_cons, List.length_nil, Nat.reduceAdd, Nat.reduceSub, Array.replicate_succ, Array.replicate_zero, List.push_toArray, List.append_toArray, List.nil_append, List.cons_append]
  gi_wp2_with fail
  refine ⟨trivial, wide_deep _, ?_⟩
  refine (callsIn_wide.2 (splitSeq_any s _)).mono ?_
  rintro e w2 ⟨rfl, rfl⟩
  gi_wp2_with fail
  obtain ⟨W1, hW1⟩ : ∃ W1, (((w.alloc (.cells #[.slice none 0 0] 24)).alloc (.cells #[.int .i64 0] 25)).alloc (.cells #[.slice none 0 0] 24)) = W1 := ⟨_, rfl⟩
  have hz1 : W1.heap.size = w.heap.size + 1 + 1 + 1 := by rw [← hW1]; simp
  have hB1 : Below w.heap.size w W1 := by rw [← hW1]; exact (((Below.refl _ _).alloc (Nat.le_refl _) _).alloc (by simp) _).alloc (by simp; omega) _
  have P0 : Boxed W1 w.heap.size 24 (.slice none 0 0) := by
    rw [← hW1]; exact ((Boxed.new w 24 (.slice none 0 0)).alloc _).alloc _
  have P1 : Boxed W1 (w.heap.size + 1) 25 (.int .i64 0) := by
    rw [← hW1]
    have := Boxed.new (w.alloc (.cells #[.slice none 0 0] 24)) 25 (.int .i64 0)
    rw [World.size_alloc] at this
    exact this.alloc _
  have P2 : Boxed W1 (w.heap.size + 1 + 1) 24 (.slice none 0 0) := by
    rw [← hW1]
    have := Boxed.new ((w.alloc (.cells #[.slice none 0 0] 24)).alloc (.cells #[.int .i64 0] 25)) 24 (.slice none 0 0)
    rw [World.size_alloc, World.size_alloc] at this
    exact this
  rw [hW1]
  clear hW1
  obtain ⟨W2, hW2⟩ : ∃ W2, boxW W1 s = W2 := ⟨_, rfl⟩
  have hz2 : W2.heap.size = w.heap.size + 1 + 1 + 1 + 3 := by rw [← hW2]; unfold boxW; simp; omega
  have hB2 : Below w.heap.size w W2 := by rw [← hW2]; unfold boxW; exact ((hB1.alloc hB1.size _).alloc (by simp; omega) _).alloc (by simp; omega) _
  have Q0 : Boxed W2 (w.heap.size + 1 + 1 + 1 + 0) 9 (.string s) := by
    rw [← hW2, Nat.add_zero, ← hz1]; exact ((Boxed.new W1 9 (.string s)).alloc _).alloc _
  have Q1 : Boxed W2 (w.heap.size + 1 + 1 + 1 + 1) 9 (.string ⟨#[32]⟩) := by
    rw [← hW2, ← hz1]
    have := Boxed.new (W1.alloc (.cells #[.string s] 9)) 9 (.string ⟨#[32]⟩)
    rw [World.size_alloc] at this
    exact this.alloc _
  have Q2 : Boxed W2 (w.heap.size + 1 + 1 + 1 + 2) 3 (.int .i64 0) := by
    rw [← hW2, ← hz1]
    have := Boxed.new ((W1.alloc (.cells #[.string s] 9)).alloc (.cells #[.string ⟨#[32]⟩] 9)) 3 (.int .i64 0)
    rw [World.size_alloc, World.size_alloc] at this
    exact this
  have R0 : Boxed W2 w.heap.size 24 (.slice none 0 0) := by rw [← hW2]; unfold boxW; exact ((P0.alloc _).alloc _).alloc _
  have R1 : Boxed W2 (w.heap.size + 1) 25 (.int .i64 0) := by rw [← hW2]; unfold boxW; exact ((P1.alloc _).alloc _).alloc _
  have R2 : Boxed W2 (w.heap.size + 1 + 1) 24 (.slice none 0 0) := by rw [← hW2]; unfold boxW; exact ((P2.alloc _).alloc _).alloc _
  rw [hW2]
  clear hW2 P0 P1 P2 hB1
  have hro : Fence.wide.round = none := rfl
  refine wpIn_range_box hro (by have := hm3.out; omega) (gf := 50) (lb := #[.pointer (some ⟨w.heap.size + 1 + 1 + 1 + 1, 0, none⟩), .pointer (some ⟨w.heap.size + 1 + 1 + 1, 0, none⟩), .pointer (some ⟨w.heap.size + 1 + 1 + 1 + 2, 0, none⟩)]) rfl trivial (enters_of Tryz.func50 (by kernel_rfl) rfl)
    (split_stops (m - 1) (w.heap.size + 1 + 1 + 1) s hs W2 Q0 Q1 Q2) (by omega)
    (fun h k => h.trans k) (fun W l o o' hl h h1 h2 k _ hk => World.putObj_heap_other (by omega)) (fun _ => rfl)
    (PMid w w.heap.size) (PNo w w.heap.size) (pMid_own _ _ _ (by omega)) (fun c => pNo_own _ _ _ (by omega) c) (fun _ _ v h => pMid_store v h)
    ⟨[], _, rdL_nil, R0, R1, R2, ownS_nil _ _, hB2, by omega, ⟨_, Q0⟩, Q1, Q2⟩
    (fun x : ByteArray => { tmps := #[.string s, undef, .pointer (some ⟨w.heap.size, 0, none⟩), .pointer (some ⟨w.heap.size + 1, 0, none⟩), .pointer (some ⟨w.heap.size + 1 + 1, 0, none⟩), .string x, undef, undef, undef, undef, .string s, .bool false, .string s, .func (.func 50) #[] #[.pointer (some ⟨w.heap.size + 1 + 1 + 1 + 1, 0, none⟩), .pointer (some ⟨w.heap.size + 1 + 1 + 1, 0, none⟩), .pointer (some ⟨w.heap.size + 1 + 1 + 1 + 2, 0, none⟩)], .string x, undef, undef, undef, undef, undef, undef, undef, undef, undef, undef, undef, undef, undef, undef, undef, undef, undef, undef, undef, undef, undef, undef, undef, undef], defers := [] }) ?assign ?body ?done ?stop
  case assign =>
    rintro l x W K hK
    gi_wp2
    exact hK
  case body =>
    rintro lp pre x X ⟨lst, v, g1, r0, r1, r2, g2, g3, g4, ⟨u, b3⟩, b4, b5⟩ hlen hok
    have HEX := errs_below HE.out g3 (Nat.le_refl _)
    have hln : lst.length ≤ 5001 := by
      have := splitL_len (dl s)
      have h5 : (dl s).length = s.size := Array.length_toList
      have := g1.1
      omega
    gi_wp2_with fail
    refine ⟨trivial, wide_deep _, ?_⟩
    refine (CallsIn.inRound lp (callsIn_wide.2 (readSpan_any x _ hok HEX))).mono ?_
    rintro e X2 ⟨⟨a, b, ok, rfl, hsp, hread⟩, hb⟩
    have up : ∀ {i t v}, Boxed X i t v → Boxed X2 i t v := fun h => (hb.block _ h.lt).trans h
    have G1 := Lib.hid g1
    have G2 := Lib.hid (g2.next hb)
    have G3 := Lib.hid (g3.trans (hb.mono (by omega)))
    have R0 := Lib.hid (up r0)
    have R1 := Lib.hid (up r1)
    have R2 := Lib.hid (up r2)
    have B3 := Lib.hid (up b3)
    have B4 := Lib.hid (up b4)
    have B5 := Lib.hid (up b5)
    have HK := Lib.hid (keep3_below (b := w.heap.size + 1 + 1 + 1) hb (by omega))
    have HKF := Lib.hid hb
    have hz3 : w.heap.size + 6 ≤ X2.heap.size := by have := hb.size; omega
    have HRD := Lib.hid hread
    have HSP := Lib.hid hsp
    have HL := Lib.hid hln
    clear g1 r0 r1 r2 g2 g3 g4 b3 b4 b5 HEX hb hread hsp up hln
    cases ok with
    | false =>
      have c0 := (R0.out.alloc (.cells #[.int .i64 a, .int .i64 b] 23)).cell
      have f0 := (R0.out.alloc (.cells #[.int .i64 a, .int .i64 b] 23)).frozen
      have c1 := (R1.out.alloc (.cells #[.int .i64 a, .int .i64 b] 23)).cell
      have f1 := (R1.out.alloc (.cells #[.int .i64 a, .int .i64 b] 23)).frozen
      gi_wp2
      refine ⟨?_, rfl, ⟨x, by simp, fun y hy e => by have := (HRD.out y hy e).2; cases this⟩, ?_, ?_, ?_⟩
      · exact (sp_keeps HKF.out).trans ((((KeepsOthers.alloc X2 _).trans (KeepsOthers.setCell _ _ _)).trans (KeepsOthers.setCell _ _ _)).from _)
      · exact ((R0.out.alloc _).set _).other (by omega) _
      · exact ((R1.out.alloc _).other (by omega) _).set _
      · exact ((G3.out.alloc (by omega) _).setCell (p := ⟨w.heap.size, 0, none⟩) (Nat.le_refl _) _).setCell (p := ⟨w.heap.size + 1, 0, none⟩) (by show _ ≤ _ + 1; omega) _
    | true =>
      have c2 := (R2.out.alloc (.cells #[.int .i64 a, .int .i64 b] 23)).cell
      have f2 := (R2.out.alloc (.cells #[.int .i64 a, .int .i64 b] 23)).frozen
      have hln := HL.out
      gi_wp2_with (gi_at_builtin; refine wpListIn_append_own _ rfl _ _ 24 rfl w.heap.size 23 i0 (.agg #[.int .i64 0, .int .i64 0]) 2 16 Tryz.underlying24 hi hj0 hj1 hj2 rfl (by decide) _ _ _ rfl ((G2.out.alloc _).alloc _) ⟨X2.heap.size + 1, 0, none⟩ 1 1 (cellsS (a, b)) rfl rfl (fun j u h => by have q := cell_lit (X2.alloc (.cells #[.int .i64 a, .int .i64 b] 23)) #[.int .i64 a, .int .i64 b] 23 j u h; rw [World.size_alloc] at q; exact q) (cellsS_one _) (by omega) (by omega) (by simp; omega) ?_; intro v' w3 hown' hgrow _; obtain ⟨g', cap', rfl⟩ := ownsRow_succ hown'; obtain ⟨hv1, hv2, hr2, hk2, hb2⟩ := (R2.out.alloc (.cells #[.int .i64 a, .int .i64 b] 23)).appended (by decide) (G2.out.alloc _) (by simp; omega) (by omega) hown' hgrow; have y0 := hv1.cell; have y1 := hv1.frozen; have Q3 := Lib.hid (box_app B3.out (by decide) G2.out hgrow); have Q4 := Lib.hid (box_app B4.out (by decide) G2.out hgrow); have Q5 := Lib.hid (box_app B5.out (by decide) G2.out hgrow); have Q0 := Lib.hid (box_app R0.out (by decide) G2.out hgrow); have Q1 := Lib.hid (box_app R1.out (by decide) G2.out hgrow))
      have hr3 : OwnS (w3.setCell ⟨w.heap.size + 1 + 1, 0, none⟩ (.slice (some ⟨g', 0, none⟩) (lst.length + 1) cap')) w.heap.size (.slice (some ⟨g', 0, none⟩) (lst.length + 1) cap') (lst ++ [(a, b)]) := by
        show World.ownsRow _ _ _ _ _ _ _
        simpa using hr2
      refine ⟨(sp_keeps HKF.out).trans (((KeepsOthers.alloc X2 _).trans hk2).from _), ?_, lst ++ [(a, b)], _, rdL_snoc G1.out HSP.out (fun y hy e => (HRD.out y hy e).1), ?_, ?_, hv2, hr3, ?_, ?_, ?_, ?_, ?_⟩
      · exact HK.out.trans (keep3_boxed B3.out B4.out B5.out (Q3.out.other (by omega) _) (Q4.out.other (by omega) _) (Q5.out.other (by omega) _))
      · exact Q0.out.other (by omega) _
      · exact Q1.out.other (by omega) _
      · exact (G3.out.alloc (by omega) _).trans hb2
      · have := hb2.size; simp at this ⊢; omega
      · exact ⟨_, Q3.out.other (by omega) _⟩
      · exact Q4.out.other (by omega) _
      · exact Q5.out.other (by omega) _
  case done =>
    rintro D ys W hD hys ⟨lst, v, g1, r0, r1, r2, g2, g3, g4, b3, b4, b5⟩ hK
    have hln : lst.length ≤ 5001 := by
      have h1 := splitL_len (dl s)
      have h5 : (dl s).length = s.size := Array.length_toList
      have h2 := g1.1
      have h3 := congrArg List.length hys
      rw [List.length_map] at h3
      omega
    obtain ⟨A9, c9, rfl, hsl, _, _⟩ := g2.sls
    have c2 := r2.cell
    have HTX : TabB W.heap.size W := fun w' h' => HT.out w' (g3.trans (h'.mono (by omega)))
    have G1 := Lib.hid g1
    have hok9 := g1.2.1
    have R0 := Lib.hid r0
    have R1 := Lib.hid r1
    have R2 := Lib.hid r2
    have G2 := Lib.hid g2
    have G3 := Lib.hid g3
    have HYS := Lib.hid hys
    have HKD := Lib.hid hK
    clear r0 r1 r2 g1 g2 g3 b3 b4 b5 hys hK
    gi_wp2_with fail
    refine ⟨trivial, wide_deep _, ?_⟩
    refine (callsIn_wide.2 (textS_any A9 c9 lst W hsl (by omega) hok9 HTX)).mono ?_
    rintro e W3 ⟨hT, hb⟩
    have HK3 := Lib.hid ((hb.block D (Array.getElem?_eq_some_iff.1 HKD.out).1).trans HKD.out)
    have R0' := Lib.hid (show Boxed W3 w.heap.size _ _ from (hb.block _ R0.out.lt).trans R0.out)
    have R1' := Lib.hid (show Boxed W3 (w.heap.size + 1) _ _ from (hb.block _ R1.out.lt).trans R1.out)
    have r2' : Boxed W3 (w.heap.size + 1 + 1) 24 (.slice A9 lst.length c9) := (hb.block _ R2.out.lt).trans R2.out
    have G2' := Lib.hid (G2.out.next hb)
    have G3' := Lib.hid (G3.out.trans (hb.mono G3.out.size))
    have u2 := r2'.cell
    have v0 := R0'.out.cell
    have v1 := R1'.out.cell
    have w0 := R0'.out.frozen
    have w1 := R1'.out.frozen
    clear hb r2' c2 HTX hsl hok9
    have HNO : Hid (SetL lst → textT lst ≠ dl s → ∀ l, AllOk l → SetL l → textT l ≠ dl s) := fun hset hne => no_of HN.out (fun m hm ok hs' e => by
      have h9 := rdL_all G1.out HYS.out hm ok e
      subst h9
      exact hne (by unfold textT; rw [if_neg hm]; exact e))
    have HNO2 : Hid (¬ SetL lst → ∀ l, AllOk l → SetL l → textT l ≠ dl s) := fun hset => no_of HN.out (fun m hm ok hs' e => by
      have h9 := rdL_all G1.out HYS.out hm ok e
      subst h9
      exact hset hs')
    rcases hT with ⟨hset, rfl⟩ | ⟨hset, rfl⟩
    · obtain ⟨T, hTe⟩ : ∃ T : ByteArray, (⟨(textT lst).toArray⟩ : ByteArray) = T := ⟨_, rfl⟩
      rw [hTe]
      have HTE : Hid (T.data.toList = textT lst) := by show _ = _; rw [← hTe]
      clear hTe
      by_cases he : textT lst = dl s
      · have hq2 : (T.toList == s.toList) = true := by
          rw [beq_iff_eq, ByteArray.toList_eq, ByteArray.toList_eq, HTE.out]; exact he
        have HE2 := Lib.hid he
        have HSET := Lib.hid hset
        clear he hset
        gi_wp2
        have hK4 : ((W3.setCell ⟨w.heap.size, 0, none⟩ (.slice A9 lst.length c9)).setCell ⟨w.heap.size + 1, 0, none⟩ (.int .i64 0)).heap[D]? = some (.deferred (some [])) := (Below.heap_setCell _ ⟨w.heap.size + 1, 0, none⟩ _ D (by show D ≠ w.heap.size + 1; omega)).trans ((Below.heap_setCell _ ⟨w.heap.size, 0, none⟩ _ D (by show D ≠ w.heap.size; omega)).trans HK3.out)
        have t0 := (((R0'.out.set (.slice A9 lst.length c9)).other (B' := w.heap.size + 1) (by omega) (.int .i64 0)).kept (grownBy_putObj' _ D (.deferred none)) (by intro e; injection e with e; omega)).cell
        have t1 := (((R1'.out.other (B' := w.heap.size) (by omega) (.slice A9 lst.length c9)).set (.int .i64 0)).kept (grownBy_putObj' _ D (.deferred none)) (by intro e; injection e with e; omega)).cell
        have hbb : Below w.heap.size w ((W3.setCell ⟨w.heap.size, 0, none⟩ (.slice A9 lst.length c9)).setCell ⟨w.heap.size + 1, 0, none⟩ (.int .i64 0)) := ((G3'.out.setCell (p := ⟨w.heap.size, 0, none⟩) (Nat.le_refl _) _).setCell (p := ⟨w.heap.size + 1, 0, none⟩) (by show _ ≤ _ + 1; omega) _)
        have hown := ((G2'.out.other R0'.out (by decide) (.slice A9 lst.length c9)).other (R1'.out.other (B' := w.heap.size) (by omega) (.slice A9 lst.length c9)) (by decide) (.int .i64 0)).kept (grownBy_putObj' _ D (.deferred none)) (fun r e => by injection e with e; subst e; exact ⟨_, hK4, rfl⟩)
        refine ⟨by simp, .inl ⟨_, _, rfl, run_takeDeferred hK4, ?_⟩⟩
        exact ⟨.tuple #[.slice A9 lst.length c9, .int .i64 0], (by rw [sp_results2 rfl]; go_simp), .inl ⟨lst, _, rfl, hown, G1.out.2.1, HSET.out, HE2.out⟩, hbb.trans (belowK_b (w := W2) (n₀ := w.heap.size) (by omega) _ D _ (.deferred none) hD hK4 rfl rfl)⟩
      · have hq2 : (T.toList == s.toList) = false := by
          rw [beq_eq_false_iff_ne, ByteArray.toList_eq, ByteArray.toList_eq, HTE.out]; exact he
        have HSAY := Lib.hid (HNO.out hset he)
        clear he hset
        gi_wp2
        have hK4 : ((W3.setCell ⟨w.heap.size, 0, none⟩ (.slice none 0 0)).setCell ⟨w.heap.size + 1, 0, none⟩ (.int .i64 30)).heap[D]? = some (.deferred (some [])) := (Below.heap_setCell _ ⟨w.heap.size + 1, 0, none⟩ _ D (by show D ≠ w.heap.size + 1; omega)).trans ((Below.heap_setCell _ ⟨w.heap.size, 0, none⟩ _ D (by show D ≠ w.heap.size; omega)).trans HK3.out)
        have t0 := (((R0'.out.set (.slice none 0 0)).other (B' := w.heap.size + 1) (by omega) (.int .i64 30)).kept (grownBy_putObj' _ D (.deferred none)) (by intro e; injection e with e; omega)).cell
        have t1 := (((R1'.out.other (B' := w.heap.size) (by omega) (.slice none 0 0)).set (.int .i64 30)).kept (grownBy_putObj' _ D (.deferred none)) (by intro e; injection e with e; omega)).cell
        have hbb : Below w.heap.size w ((W3.setCell ⟨w.heap.size, 0, none⟩ (.slice none 0 0)).setCell ⟨w.heap.size + 1, 0, none⟩ (.int .i64 30)) := ((G3'.out.setCell (p := ⟨w.heap.size, 0, none⟩) (Nat.le_refl _) _).setCell (p := ⟨w.heap.size + 1, 0, none⟩) (by show _ ≤ _ + 1; omega) _)
        refine ⟨by simp, .inl ⟨_, _, rfl, run_takeDeferred hK4, ?_⟩⟩
        exact ⟨.tuple #[.slice none 0 0, .int .i64 30], (by rw [sp_results2 rfl]; go_simp), .inr ⟨rfl, HSAY.out⟩, hbb.trans (belowK_b (w := W2) (n₀ := w.heap.size) (by omega) _ D _ (.deferred none) hD hK4 rfl rfl)⟩
    · have HSAY := Lib.hid (HNO2.out hset)
      clear hset
      gi_wp2
      have hK4 : ((W3.setCell ⟨w.heap.size, 0, none⟩ (.slice none 0 0)).setCell ⟨w.heap.size + 1, 0, none⟩ (.int .i64 30)).heap[D]? = some (.deferred (some [])) := (Below.heap_setCell _ ⟨w.heap.size + 1, 0, none⟩ _ D (by show D ≠ w.heap.size + 1; omega)).trans ((Below.heap_setCell _ ⟨w.heap.size, 0, none⟩ _ D (by show D ≠ w.heap.size; omega)).trans HK3.out)
      have t0 := (((R0'.out.set (.slice none 0 0)).other (B' := w.heap.size + 1) (by omega) (.int .i64 30)).kept (grownBy_putObj' _ D (.deferred none)) (by intro e; injection e with e; omega)).cell
      have t1 := (((R1'.out.other (B' := w.heap.size) (by omega) (.slice none 0 0)).set (.int .i64 30)).kept (grownBy_putObj' _ D (.deferred none)) (by intro e; injection e with e; omega)).cell
      have hbb : Below w.heap.size w ((W3.setCell ⟨w.heap.size, 0, none⟩ (.slice none 0 0)).setCell ⟨w.heap.size + 1, 0, none⟩ (.int .i64 30)) := ((G3'.out.setCell (p := ⟨w.heap.size, 0, none⟩) (Nat.le_refl _) _).setCell (p := ⟨w.heap.size + 1, 0, none⟩) (by show _ ≤ _ + 1; omega) _)
      refine ⟨by simp, .inl ⟨_, _, rfl, run_takeDeferred hK4, ?_⟩⟩
      exact ⟨.tuple #[.slice none 0 0, .int .i64 30], (by rw [sp_results2 rfl]; go_simp), .inr ⟨rfl, HSAY.out⟩, hbb.trans (belowK_b (w := W2) (n₀ := w.heap.size) (by omega) _ D _ (.deferred none) hD hK4 rfl rfl)⟩
  case stop =>
    rintro D c q W hD hSp ⟨rfl, ⟨x, hx, hno⟩, h3, h4, h6⟩ hK
    have hsay := no_of HN.out (fun m hm ok hset e => by
      obtain ⟨i, hi1, hi2⟩ := List.mem_iff_getElem.1 (hSp.subset (List.mem_map.2 ⟨x, hx, rfl⟩))
      have hb := splitL_body hm
      rw [e] at hb
      have h9 : dl x ∈ m.map oneT := by rw [← hb, ← hi2]; exact List.getElem_mem _
      obtain ⟨y, hy, hy2⟩ := List.mem_map.1 h9
      exact hno y (ok y hy) hy2.symm)
    gi_wp2
    refine ⟨by simp, .inl ⟨_, _, rfl, run_takeDeferred hK, ?_⟩⟩
    have s0 := (h3.kept (grownBy_putObj' W D (.deferred none)) (by intro e; injection e with e; omega)).cell
    have s1 := (h4.kept (grownBy_putObj' W D (.deferred none)) (by intro e; injection e with e; omega)).cell
    exact ⟨.tuple #[.slice none 0 0, .int .i64 30], (by rw [sp_results2 rfl]; go_simp), .inr ⟨rfl, hsay⟩, h6.trans (belowK_b (w := W2) (n₀ := w.heap.size) (by omega) W D _ (.deferred none) hD hK rfl rfl)⟩
end Go.Proofs.YtfonmgpkbgdniaaGreatDoor
