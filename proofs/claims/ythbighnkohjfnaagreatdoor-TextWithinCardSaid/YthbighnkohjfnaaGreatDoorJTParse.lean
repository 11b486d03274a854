/-
  CONTRACT: the program's Parse.
-/
import Derived.RangeFuncBox
import Derived.OwnWalkIn
import Derived.Test.YthbighnkohjfnaaGreatDoorJTTake
import Derived.Test.YthbighnkohjfnaaGreatDoorJTMake
namespace Go.Proofs.YthbighnkohjfnaaGreatDoor
open Go.RowKit
attribute [local go_sem] Oper.semAt_some

/-- tokens taken one by one: where it stops, or what has been read -/
noncomputable def runA : List Tk → List Nd × Ops × Nat → Sum Tk (List Nd × Ops × Nat)
  | [], st => .inr st
  | x :: r, st => match takeA st.1 st.2.1 st.2.2 x with
    | none => .inl x
    | some st' => runA r st'
theorem runA_snoc : ∀ (l : List Tk) (x : Tk) (st st1 : List Nd × Ops × Nat), runA l st = .inr st1 → runA (l ++ [x]) st = match takeA st1.1 st1.2.1 st1.2.2 x with
    | none => .inl x
    | some st' => .inr st'
  | [], x, st, st1, h => by
    cases h
    show (match takeA st.1 st.2.1 st.2.2 x with | none => _ | some st' => _) = _
    cases takeA st.1 st.2.1 st.2.2 x <;> rfl
  | y :: l, x, st, st1, h => by
    show (match takeA st.1 st.2.1 st.2.2 y with | none => Sum.inl y | some st' => runA (l ++ [x]) st') = _
    replace h : (match takeA st.1 st.2.1 st.2.2 y with | none => Sum.inl y | some st' => runA l st') = .inr st1 := h
    cases hy : takeA st.1 st.2.1 st.2.2 y with
    | none => rw [hy] at h; cases h
    | some st' =>
      rw [hy] at h
      exact runA_snoc l x st' st1 h
theorem runA_stop : ∀ (l m : List Tk) (x : Tk) (st st1 : List Nd × Ops × Nat), runA l st = .inr st1 → takeA st1.1 st1.2.1 st1.2.2 x = none → runA (l ++ [x] ++ m) st = .inl x
  | [], m, x, st, st1, h, hx => by
    cases h
    show (match takeA st.1 st.2.1 st.2.2 x with | none => _ | some st' => _) = _
    rw [hx]
  | y :: l, m, x, st, st1, h, hx => by
    show (match takeA st.1 st.2.1 st.2.2 y with | none => Sum.inl y | some st' => runA (l ++ [x] ++ m) st') = _
    replace h : (match takeA st.1 st.2.1 st.2.2 y with | none => Sum.inl y | some st' => runA l st') = .inr st1 := h
    cases hy : takeA st.1 st.2.1 st.2.2 y with
    | none => rw [hy] at h; cases h
    | some st' =>
      rw [hy] at h
      exact runA_stop l m x st' st1 h hx
/-- no more nodes than may be -/
theorem takeA_size {done : List Nd} {op : Ops} {size : Nat} {x : Tk} {a : List Nd × Ops × Nat} (h : takeA done op size x = some a) (hs : size ≤ 5000) : a.2.2 ≤ 5000 := by
  have hb : beginA done op size x = some a → a.2.2 ≤ 5000 := fun h => by
    unfold beginA at h
    cases hd : nodeD x with
    | none => rw [hd] at h; cases h
    | some X =>
      rw [hd] at h
      dsimp only at h
      by_cases h5 : size = 5000
      · rw [if_pos h5] at h; cases h
      · rw [if_neg h5] at h
        by_cases hx : x.1 = 1
        · rw [if_pos hx] at h; cases h; show size + 1 ≤ 5000; omega
        · rw [if_neg hx] at h; cases h; show size + 1 ≤ 5000; omega
  unfold takeA at h
  by_cases h1 : x.1 = 1
  · rw [if_pos h1] at h
    by_cases h2 : op.length = 50
    · rw [if_pos h2] at h; cases h
    · rw [if_neg h2] at h; exact hb h
  rw [if_neg h1] at h
  by_cases h0 : x.1 = 0
  · rw [if_pos h0] at h; exact hb h
  rw [if_neg h0] at h
  by_cases h2 : x.1 = 2
  · rw [if_pos h2] at h
    unfold closeA at h
    split at h
    · cases h
    · split at h
      · cases h; exact hs
      · cases h
  rw [if_neg h2] at h
  by_cases h3 : x.1 = 3
  · rw [if_pos h3] at h
    by_cases h4 : op.length = 0
    · rw [if_pos h4] at h; cases h; exact hs
    · rw [if_neg h4] at h; cases h
  · rw [if_neg h3] at h; cases h
/-- the cells of the results -/
structure ResT (W : World) (r : Nat) (A : Option Addr) (n c : Nat) (l k e : Int) : Prop where
  a : W.heap[r]? = some (.cells #[.slice A n c] 22 (0, 0))
  b : W.heap[r + 1]? = some (.cells #[.int .i64 l] 3 (0, 0))
  c : W.heap[r + 1 + 1]? = some (.cells #[.int .i64 k] 3 (0, 0))
  d : W.heap[r + 1 + 1 + 1]? = some (.cells #[.int .i64 e] 23 (0, 0))
theorem ResT.same {W W' : World} {r : Nat} {A : Option Addr} {n c : Nat} {l k e : Int} (h : ResT W r A n c l k e) (hk : ∀ (b : Nat) (cs : Array Value) (T : TypeId), W.heap[b]? = some (.cells cs T (0, 0)) → (T = 22 ∨ T = 3 ∨ T = 23) → W'.heap[b]? = W.heap[b]?) : ResT W' r A n c l k e :=
  ⟨(hk _ _ _ h.a (.inl rfl)).trans h.a, (hk _ _ _ h.b (.inr (.inl rfl))).trans h.b, (hk _ _ _ h.c (.inr (.inl rfl))).trans h.c, (hk _ _ _ h.d (.inr (.inr rfl))).trans h.d⟩
theorem ResT.keep {W W' : World} {r : Nat} {A : Option Addr} {n c : Nat} {l k e : Int} (h : ResT W r A n c l k e) (hk : KeepTk W W') : ResT W' r A n c l k e :=
  h.same fun b cs T hb hT => hk.same b cs T hb (fun e => by subst e; exact absurd hT (by decide)) (fun e => by subst e; exact absurd hT (by decide))
/-- cells are kept where no block of cells turns -/
theorem cells_grown {W W' : World} {row : Option Nat} (hg : W.grownBy W' row) (hr : ∀ r, row = some r → ∃ o : Obj, W.heap[r]? = some o ∧ o.isCells = false) {b : Nat} {cs : Array Value} {T : TypeId} (hb : W.heap[b]? = some (.cells cs T (0, 0))) : W'.heap[b]? = W.heap[b]? :=
  hg.block b (Array.getElem?_eq_some_iff.1 hb).1 fun e => by
    obtain ⟨o, ho, hc⟩ := hr b e.symm
    rw [hb] at ho
    cases ho
    cases hc
/-- where the reading stands -/
def MidT (w : World) (r b : Nat) (pre : List Tk) (W : World) : Prop :=
  ∃ st, runA pre ([], [], 0) = .inr st ∧ RdA w.heap.size W b st.1 st.2.1 st.2.2 pre.length ∧ st.2.2 ≤ 5000 ∧ ResT W r none 0 0 0 0 0 ∧ Below w.heap.size w W
def StopT (w : World) (r : Nat) (c : Code) (pre : List Tk) (W : World) : Prop :=
  c = .ret ∧ ∃ p x st, pre = p ++ [x] ∧ runA p ([], [], 0) = .inr st ∧ takeA st.1 st.2.1 st.2.2 x = none ∧ ResT W r none 0 0 (x.2.2.1 : Int) (x.2.2.2 : Int) 50 ∧ Below w.heap.size w W
theorem RdA.keep {lo b size t : Nat} {W W' : World} {done : List Nd} {op : Ops} (h : RdA lo W b done op size t) (hk : KeepN W W') : RdA lo W' b done op size t := by
  obtain ⟨vd, vo, d, o, h1, h2, h3⟩ := h
  exact ⟨vd, vo, d, o, h1.keep hk, h2, h3⟩
theorem midT_own (w : World) (r b B : Nat) (hB : w.heap.size ≤ B) : OwnFrom B (MidT w r b) := by
  rintro pre W W' row ⟨st, h1, h2, h3, h4, h5⟩ hg hr
  have hc := fun r e => (hr r e).2
  exact ⟨st, h1, h2.keep ⟨⟨hg.size, fun _ _ hb => cells_grown hg hc hb⟩, fun _ _ hb => cells_grown hg hc hb⟩, h3, h4.same fun _ _ _ hb _ => cells_grown hg hc hb, h5.grown hg (Nat.le_trans h5.size (Nat.le_refl _)) (fun k e => Nat.le_trans hB (hr k e).1)⟩
theorem stopT_own (w : World) (r B : Nat) (hB : w.heap.size ≤ B) (c : Code) : OwnFrom B (StopT w r c) := by
  rintro pre W W' row ⟨h0, p, x, st, h1, h2, h3, h4, h5⟩ hg hr
  have hc := fun r e => (hr r e).2
  exact ⟨h0, p, x, st, h1, h2, h3, h4.same fun _ _ _ hb _ => cells_grown hg hc hb, h5.grown hg (Nat.le_trans h5.size (Nat.le_refl _)) (fun k e => Nat.le_trans hB (hr k e).1)⟩
theorem midT_stands (w : World) (r b B : Nat) (hB : w.heap.size ≤ B) : Stands 67 B (MidT w r b) := by
  rintro pre X Y g cs hg hb ho ⟨st, h1, h2, h3, h4, h5⟩
  have key : ∀ (b : Nat) (cs' : Array Value) (T : TypeId), X.heap[b]? = some (.cells cs' T (0, 0)) → T ≠ 67 → Y.heap[b]? = X.heap[b]? := fun b cs' T hb' hT => ho.block (fun e => by
    subst e
    rw [hb] at hb'
    cases hb'
    exact hT rfl) (Array.getElem?_eq_some_iff.1 hb').1
  exact ⟨st, h1, h2.keep ⟨⟨ho.bel.size, fun b cs hb => key b cs _ hb (by decide)⟩, fun b cs hb => key b cs _ hb (by decide)⟩, h3, h4.same fun b cs T hb hT => key b cs T hb (fun e => by subst e; exact absurd hT (by decide)), h5.trans (ho.bel.mono (Nat.le_trans hB hg))⟩
theorem MidT.next {w W W' : World} {r b : Nat} {pre : List Tk} (h : MidT w r b pre W) (hb : Below W.heap.size W W') : MidT w r b pre W' := by
  obtain ⟨st, h1, h2, h3, h4, h5⟩ := h
  exact ⟨st, h1, h2.next hb, h3, h4.keep (KeepTk.of_below hb), h5.trans (hb.mono h5.size)⟩
/-- what Parse answers -/
def ParseT (w : World) (s : ByteArray) (e : Ending) (w' : World) : Prop :=
  (match runA (tellB (s.size + 1) s (1, 1)) ([], [], 0) with
    | .inl x => e = .returned (.tuple #[.slice none 0 0, .int .i64 (x.2.2.1 : Int), .int .i64 (x.2.2.2 : Int), .int .i64 50])
    | .inr st => ∃ A c, e = .returned (.tuple #[.slice A st.1.length c, .int .i64 0, .int .i64 0, .int .i64 0]) ∧ SlN 51 w' (fun g => w.heap.size ≤ g ∧ g < w'.heap.size) A st.1) ∧ Below w.heap.size w w'
theorem ResT.cells {W : World} {r : Nat} {A : Option Addr} {n c : Nat} {l k e : Int} (h : ResT W r A n c l k e) : (W.cell? ⟨r, 0, none⟩ = some (.slice A n c) ∧ W.cell? ⟨r + 1, 0, none⟩ = some (.int .i64 l) ∧ W.cell? ⟨r + 1 + 1, 0, none⟩ = some (.int .i64 k) ∧ W.cell? ⟨r + 1 + 1 + 1, 0, none⟩ = some (.int .i64 e)) ∧
    W.frozen? ⟨r, 0, none⟩ = false ∧ W.frozen? ⟨r + 1, 0, none⟩ = false ∧ W.frozen? ⟨r + 1 + 1, 0, none⟩ = false ∧ W.frozen? ⟨r + 1 + 1 + 1, 0, none⟩ = false := by
  obtain ⟨h1, h2, h3, h4⟩ := h
  simp [World.cell?, World.frozen?, h1, h2, h3, h4]
theorem resT_end (W : World) (r : Nat) (A : Option Addr) (n c : Nat) (l k e : Int) (h : ResT W r A n c l k e) (tmps : Array Value) (h2 : tmps[2]?.getD undef = .pointer (some ⟨r, 0, none⟩)) (h3 : tmps[3]?.getD undef = .pointer (some ⟨r + 1, 0, none⟩)) (h4 : tmps[4]?.getD undef = .pointer (some ⟨r + 1 + 1, 0, none⟩)) (h5 : tmps[5]?.getD undef = .pointer (some ⟨r + 1 + 1 + 1, 0, none⟩)) :
    (results Tryz.f6 tmps).run Tryz.prog W = .ok (.tuple #[.slice A n c, .int .i64 l, .int .i64 k, .int .i64 e]) W := by
  obtain ⟨⟨c0, c1, c2, c3⟩, _⟩ := h.cells
  have hr : (Tryz.f6).results = #[.cell 2 22, .cell 3 3, .cell 4 3, .cell 5 23] := by kernel_rfl
  unfold results
  rw [hr]
  simp [Sem.run_bind, h2, h3, h4, h5]
  go_simp
/-- four cells are written -/
theorem ResT.set4 {W : World} {r : Nat} {A A' : Option Addr} {n c n' c' : Nat} {l k e l' k' e' : Int} (h : ResT W r A n c l k e) : ResT ((((W.setCell ⟨r, 0, none⟩ (.slice A' n' c')).setCell ⟨r + 1, 0, none⟩ (.int .i64 l')).setCell ⟨r + 1 + 1, 0, none⟩ (.int .i64 k')).setCell ⟨r + 1 + 1 + 1, 0, none⟩ (.int .i64 e')) r A' n' c' l' k' e' := by
  obtain ⟨a1, a2, a3, a4⟩ := h
  have ot : ∀ (Y : World) (q q' : Nat) (u : Value), q' ≠ q → (Y.setCell ⟨q, 0, none⟩ u).heap[q']? = Y.heap[q']? := fun Y q q' u hq => heap_setCell_other Y ⟨q, 0, none⟩ q' u hq
  refine ⟨?_, ?_, ?_, ?_⟩
  · rw [ot _ _ _ _ (by omega), ot _ _ _ _ (by omega), ot _ _ _ _ (by omega), heap_setCell_same _ _ _ _ _ _ a1]
    rfl
  · rw [ot _ _ _ _ (by omega), ot _ _ _ _ (by omega), heap_setCell_same _ _ _ _ _ _ ((ot _ _ _ _ (by omega)).trans a2)]
    rfl
  · rw [ot _ _ _ _ (by omega), heap_setCell_same _ _ _ _ _ _ ((ot _ _ _ _ (by omega)).trans ((ot _ _ _ _ (by omega)).trans a3))]
    rfl
  · rw [heap_setCell_same _ _ _ _ _ _ ((ot _ _ _ _ (by omega)).trans ((ot _ _ _ _ (by omega)).trans ((ot _ _ _ _ (by omega)).trans a4)))]
    rfl
theorem tellB_len2 : ∀ (f : Nat) (s : ByteArray) (p : Nat × Nat), (tellB f s p).length ≤ f + 2
  | 0, _, _ => Nat.zero_le _
  | f + 1, s, p => by
    have ih := tellB_len2 f
    rw [tellB]
    split
    · simp
    · split
      · exact Nat.le_succ_of_le (ih _ _)
      · split
        · exact Nat.le_succ_of_le (ih _ _)
        · split
          · simp
          · rw [List.length_cons]
            split
            · simp
            · exact Nat.succ_le_succ (ih _ _)
theorem tellB_len (s : ByteArray) (hs : s.size ≤ 50000) : (tellB (s.size + 1) s (1, 1)).length ≤ 100000 := by
  have := tellB_len2 (s.size + 1) s (1, 1)
  omega
set_option maxRecDepth 100000 in
set_option maxHeartbeats 4000000 in
theorem parse_in (m : Nat) (hm3 : Hid (3 ≤ m)) (s : ByteArray) (w : World) (hs : s.size ≤ 50000) (herr : Errs w) (htab : Tab w) :
    CallsIn Fence.wide m Tryz.prog 6 #[.string s] w (ParseT w s) := by
  have HER := Lib.hid herr
  have HTB := Lib.hid htab
  have HSS := Lib.hid hs
  clear herr htab hs
  refine callsIn_of_wp_marks Tryz.func6 rfl trivial ?_ rfl
  simp only [Tryz.ntmps6, List.size_toArray, List.length_cons, List.length_nil, Nat.reduceAdd, Nat.reduceSub, Array.replicate_succ, Array.replicate_zero, List.push_toArray, List.append_toArray, List.nil_append, List.cons_append]
  gi_wp2_with fail
  have hb1 : Below w.heap.size w (((((w.alloc (.cells #[.slice none 0 0] 22)).alloc (.cells #[.int .i64 0] 3)).alloc (.cells #[.int .i64 0] 3)).alloc (.cells #[.int .i64 0] 23)).alloc (.cells #[.slice none 0 0, .slice none 0 0, .int .i64 0] 41)) :=
    (((((Below.refl _ _).alloc (Nat.le_refl _) _).alloc (by simp) _).alloc (by simp; omega) _).alloc (by simp; omega) _).alloc (by simp; omega) _
  have hr1 : ResT (((((w.alloc (.cells #[.slice none 0 0] 22)).alloc (.cells #[.int .i64 0] 3)).alloc (.cells #[.int .i64 0] 3)).alloc (.cells #[.int .i64 0] 23)).alloc (.cells #[.slice none 0 0, .slice none 0 0, .int .i64 0] 41)) w.heap.size none 0 0 0 0 0 := by
    have a1 := heap_alloc_new w (.cells #[.slice none 0 0] 22)
    have a2 := heap_alloc_new (w.alloc (.cells #[.slice none 0 0] 22)) (.cells #[.int .i64 0] 3)
    have a3 := heap_alloc_new ((w.alloc (.cells #[.slice none 0 0] 22)).alloc (.cells #[.int .i64 0] 3)) (.cells #[.int .i64 0] 3)
    have a4 := heap_alloc_new (((w.alloc (.cells #[.slice none 0 0] 22)).alloc (.cells #[.int .i64 0] 3)).alloc (.cells #[.int .i64 0] 3)) (.cells #[.int .i64 0] 23)
    simp only [World.size_alloc] at a2 a3 a4
    have up : ∀ (X : World) (o o' : Obj) (b : Nat), X.heap[b]? = some o → (X.alloc o').heap[b]? = some o := fun X o o' b h => (Below.heap_alloc X o' b (Array.getElem?_eq_some_iff.1 h).1).trans h
    exact ⟨up _ _ _ _ (up _ _ _ _ (up _ _ _ _ (up _ _ _ _ a1))), up _ _ _ _ (up _ _ _ _ (up _ _ _ _ a2)), up _ _ _ _ (up _ _ _ _ a3), up _ _ _ _ a4⟩
  have hx1 : (((((w.alloc (.cells #[.slice none 0 0] 22)).alloc (.cells #[.int .i64 0] 3)).alloc (.cells #[.int .i64 0] 3)).alloc (.cells #[.int .i64 0] 23)).alloc (.cells #[.slice none 0 0, .slice none 0 0, .int .i64 0] 41)).heap[w.heap.size + 1 + 1 + 1 + 1]? = some (.cells #[.slice none 0 0, .slice none 0 0, .int .i64 0] 41 (0, 0)) := by
    have a5 := heap_alloc_new ((((w.alloc (.cells #[.slice none 0 0] 22)).alloc (.cells #[.int .i64 0] 3)).alloc (.cells #[.int .i64 0] 3)).alloc (.cells #[.int .i64 0] 23)) (.cells #[.slice none 0 0, .slice none 0 0, .int .i64 0] 41)
    simp only [World.size_alloc] at a5
    exact a5
  obtain ⟨w1, hw1⟩ : ∃ w1, (((((w.alloc (.cells #[.slice none 0 0] 22)).alloc (.cells #[.int .i64 0] 3)).alloc (.cells #[.int .i64 0] 3)).alloc (.cells #[.int .i64 0] 23)).alloc (.cells #[.slice none 0 0, .slice none 0 0, .int .i64 0] 41)) = w1 := ⟨_, rfl⟩
  rw [hw1] at hb1 hr1 hx1 ⊢
  have hz1 : w1.heap.size = w.heap.size + 5 := by rw [← hw1]; simp
  clear hw1
  refine ⟨trivial, wide_deepT _, ?_⟩
  refine (callsIn_wide.2 (tmake_any s w1)).mono ?_
  rintro e w2 ⟨b1, b2, b3, o1, o2, rfl, hcap, hb2⟩
  obtain ⟨r, hr⟩ : ∃ r, w.heap.size = r := ⟨_, rfl⟩
  have hB2 : Below w.heap.size w w2 := hb1.trans (hb2.mono hb1.size)
  have hz2 : r + 5 ≤ w2.heap.size := by have := hb2.size; omega
  have hM : MidT w r (r + 1 + 1 + 1 + 1) [] w2 := by
    refine ⟨_, rfl, ?_, Nat.zero_le _, (hr ▸ hr1).keep (KeepTk.of_below hb2), hB2⟩
    refine ⟨.slice none 0 0, .slice none 0 0, [], [], ?_, rfl, rfl⟩
    have hnil : ∀ (i : Nat) (q : Value × List Ek), (rowsR (.slice none 0 0) (.slice none 0 0) [] [])[i]? = some q → q = (.slice none 0 0, []) := fun i q hq => by
      have := List.mem_of_getElem? hq
      simp [rowsR] at this
      exact this
    refine ⟨(hb2.block _ (Array.getElem?_eq_some_iff.1 (hr ▸ hx1)).1).trans (hr ▸ hx1), ⟨fun i q hq => ?_, fun i j q q' g hi hj hg _ => ?_⟩, (fun e he => by cases he), (fun i x hx => by simp at hx), Nat.zero_le _, Nat.le_refl _, (fun x hx => by cases hx)⟩
    · rw [hnil i q hq]
      exact World.ownsRow_nil _ _ _ _
    · rw [hnil i q hi] at hg
      simp [Value.ownBlock] at hg
  rw [hr]
  have HR := Lib.hid hr
  have HZ2 := Lib.hid hz2
  clear hb1 hr1 hx1 hz1 hb2 hB2
  gi_wp2_with fail
  have hro : Fence.wide.round = none := rfl
  refine wpIn_range_only hro (by have := hm3.out; omega) (gf := 31) (lb := #[.pointer (some ⟨b1, 0, none⟩), .pointer (some ⟨b2, 0, none⟩), .pointer (some ⟨b3, 0, none⟩)]) rfl trivial (enters_of Tryz.func31 (by kernel_rfl) rfl)
    (ttold_stops w2 b1 b2 b3 o1 o2 s (m - 1) hcap HSS.out) (fun h k => h.trans k) (fun W l o o' _ h h1 _ => KeepTk.putObj W l o o' h h1) (fun _ => rfl)
    (MidT w r (r + 1 + 1 + 1 + 1)) (StopT w r) (midT_own w r _ _ (by omega)) (stopT_own w r _ (by omega)) (midT_stands w r _ _ (by omega)) hM
    (fun x a' W => ∃ g, BxT W g x.1 x.2.1 x.2.2 ∧ a' = { tmps := #[.string s, undef, .pointer (some ⟨r, 0, none⟩), .pointer (some ⟨r + 1, 0, none⟩), .pointer (some ⟨r + 1 + 1, 0, none⟩), .pointer (some ⟨r + 1 + 1 + 1, 0, none⟩), .pointer (some ⟨r + 1 + 1 + 1 + 1, 0, none⟩), .pointer (some ⟨g, 0, none⟩), .string s, .func (.func 31) #[] #[.pointer (some ⟨b1, 0, none⟩), .pointer (some ⟨b2, 0, none⟩), .pointer (some ⟨b3, 0, none⟩)], .agg #[.int .i64 x.1, .string x.2.1, .int .i64 (x.2.2.1 : Int), .int .i64 (x.2.2.2 : Int)], undef, undef, undef, undef, undef, undef, undef, undef, undef], defers := [] })
    (fun x a' _ X Y row ⟨g, hg, e⟩ hgr hr => ⟨g, (cells_grown hgr (fun r e => (hr r e).2) hg).trans hg, e⟩) ?assign ?body ?done ?stop
  case assign =>
    rintro l pre x X K hI hok hK
    unfold encT
    gi_wp2
    have hb : Below X.heap.size X (X.alloc (.cells #[.int .i64 x.1, .string x.2.1, .int .i64 (x.2.2.1 : Int), .int .i64 (x.2.2.2 : Int)] 46)) := (Below.refl _ _).alloc (Nat.le_refl _) _
    exact hK _ _ (KeepTx.of_below hb).others (KeepTk.of_below hb) (hI.next hb) ⟨X.heap.size, bxT_new X x.1 x.2.1 x.2.2, rfl⟩
  case body =>
    rintro l pre x a' X ⟨st, h1, h2, h3, h4, h5⟩ ⟨g, hg, rfl⟩ hlen hok
    have x0 := hg.cell 0
    have x1 := hg.cell 1
    have x2 := hg.cell 2
    have x3 := hg.cell 3
    have HRR := HR.out
    have HZZ := HZ2.out
    have HTK := Lib.hid (take_any (r + 1 + 1 + 1 + 1) st.1 st.2.1 st.2.2 pre.length x w X h2 h5 (by omega) (by have := HSS.out; omega) h3 hok HER.out HTB.out)
    have HG := Lib.hid hg
    have HRES := Lib.hid h4
    have H1 := Lib.hid h1
    have H3 := Lib.hid h3
    have H5 := Lib.hid h5
    clear h1 h2 h3 h4 h5 hg
    gi_wp2_with fail
    refine ⟨trivial, wide_deepT _, (CallsIn.inRound l (callsIn_wide.2 HTK.out)).mono ?_⟩
    rintro e X2 hT
    obtain ⟨v, rfl, hT2⟩ := takeEnd_ret hT
    clear hT
    obtain ⟨hT3, hbel, hkt⟩ := hT2
    cases hta : takeA st.1 st.2.1 st.2.2 x with
    | some a =>
      rw [hta] at hT3
      obtain ⟨hv, hra⟩ := hT3
      obtain rfl : v = true := by injection hv with hv; injection hv
      gi_wp2
      refine ⟨hkt.others, hkt.toKeepTk, a, ?_, ?_, takeA_size hta H3.out, HRES.out.keep hkt.toKeepTk, H5.out.trans hbel⟩
      · rw [runA_snoc _ _ _ _ H1.out, hta]
      · rw [List.length_append, List.length_singleton]
        exact hra
    | none =>
      rw [hta] at hT3
      obtain rfl : v = false := by injection hT3 with hv; injection hv
      have hg2 : BxT X2 g x.1 x.2.1 x.2.2 := (hkt.same _ _ _ HG.out (by decide) (by decide)).trans HG.out
      have hres2 := HRES.out.keep hkt.toKeepTk
      obtain ⟨⟨c0, c1, c2, c3⟩, f0, f1, f2, f3⟩ := hres2.cells
      have x2 := hg2.cell 2
      have x3 := hg2.cell 3
      have ne : ∀ (q : Nat) (cs : Array Value) (T : TypeId), X2.heap[q]? = some (.cells cs T (0, 0)) → T ≠ 46 → ¬ g = q := fun q cs T hq hT e => by
        subst e
        rw [show X2.heap[g]? = _ from hg2] at hq
        cases hq
        exact hT rfl
      have n0 := ne _ _ _ hres2.a (by decide)
      have n1 := ne _ _ _ hres2.b (by decide)
      have n2 := ne _ _ _ hres2.c (by decide)
      have n3 := ne _ _ _ hres2.d (by decide)
      have m0 : ¬ r = g := fun e => n0 e.symm
      have m1 : ¬ r + 1 = g := fun e => n1 e.symm
      have m2 : ¬ r + 1 + 1 = g := fun e => n2 e.symm
      have m3 : ¬ r + 1 + 1 + 1 = g := fun e => n3 e.symm
      have e0 : (g == r) = false := beq_eq_false_iff_ne.2 n0
      have e1 : (g == r + 1) = false := beq_eq_false_iff_ne.2 n1
      have e2 : (g == r + 1 + 1) = false := beq_eq_false_iff_ne.2 n2
      have e3 : (g == r + 1 + 1 + 1) = false := beq_eq_false_iff_ne.2 n3
      have HRES2 := Lib.hid hres2
      have HTA := Lib.hid hta
      have HBEL := Lib.hid hbel
      have HKT := Lib.hid hkt
      have HFIN : Hid (KeepsFrom w2.heap.size X (((((X2.setCell ⟨r, 0, none⟩ (.slice none 0 0)).setCell ⟨r + 1, 0, none⟩ (.int .i64 (x.2.2.1 : Int))).setCell ⟨r + 1 + 1, 0, none⟩ (.int .i64 (x.2.2.2 : Int))).setCell ⟨r + 1 + 1 + 1, 0, none⟩ (.int .i64 50)).drew) ∧ StopT w r .ret (pre ++ [x]) (((((X2.setCell ⟨r, 0, none⟩ (.slice none 0 0)).setCell ⟨r + 1, 0, none⟩ (.int .i64 (x.2.2.1 : Int))).setCell ⟨r + 1 + 1, 0, none⟩ (.int .i64 (x.2.2.2 : Int))).setCell ⟨r + 1 + 1 + 1, 0, none⟩ (.int .i64 50)).drew)) := by
        have ks : ∀ (Y : World) (q : Nat) (u : Value), q < w2.heap.size → KeepsFrom w2.heap.size Y (Y.setCell ⟨q, 0, none⟩ u) := fun Y q u hq => KeepsFrom.of_grownBy (grownBy_setCell' Y q u) (fun j ej => by cases ej; omega)
        have hkf := (hkt.others (B := w2.heap.size)).trans ((ks X2 r (.slice none 0 0) (by omega)).trans ((ks _ (r + 1) (.int .i64 (x.2.2.1 : Int)) (by omega)).trans ((ks _ (r + 1 + 1) (.int .i64 (x.2.2.2 : Int)) (by omega)).trans (ks _ (r + 1 + 1 + 1) (.int .i64 50) (by omega)))))
        refine ⟨⟨hkf.size, hkf.same⟩, rfl, pre, x, st, rfl, H1.out, hta, ?_, ?_⟩
        · have h9 := hres2.set4 (A' := none) (n' := 0) (c' := 0) (l' := (x.2.2.1 : Int)) (k' := (x.2.2.2 : Int)) (e' := 50)
          exact ⟨h9.a, h9.b, h9.c, h9.d⟩
        · have hb9 := H5.out.trans hbel
          exact ((((hb9.setCell (p := ⟨r, 0, none⟩) (by show w.heap.size ≤ r; omega) _).setCell (p := ⟨r + 1, 0, none⟩) (by show w.heap.size ≤ r + 1; omega) _).setCell (p := ⟨r + 1 + 1, 0, none⟩) (by show w.heap.size ≤ r + 1 + 1; omega) _).setCell (p := ⟨r + 1 + 1 + 1, 0, none⟩) (by show w.heap.size ≤ r + 1 + 1 + 1; omega) _).drew
      have hmo : Tryz.prog.follows .mixedOrders = true := by kernel_rfl
      clear ne hres2 hg2 hta hbel hkt hT3
      gi_wp2_with fail
      gi_region_with_o (fail)
      all_goals
        gi_wp2
        exact HFIN.out
  case done =>
    rintro D ys W hD hys ⟨st, h1, h2, h3, h4, h5⟩ hK
    obtain ⟨vd, vo, d, o, hrd, hd1, hd2⟩ := h2
    obtain ⟨Ad, cd, rfl⟩ : ∃ Ad cd, vd = .slice Ad d.length cd := by
      rcases hrd.rowD.2 with ⟨rfl, e⟩ | ⟨g, cap, _, rfl, _⟩
      · exact ⟨none, 0, by rw [e]⟩
      · exact ⟨_, _, rfl⟩
    have b0 := hrd.cell 0
    obtain ⟨⟨c0, c1, c2, c3⟩, f0, f1, f2, f3⟩ := h4.cells
    have HRR := HR.out
    have HDL : Hid (st.1.length = d.length) := by show _ = _; rw [← hd1, List.length_map]
    have HRD := Lib.hid hrd
    have H4 := Lib.hid h4
    have H5 := Lib.hid h5
    have H1 := Lib.hid h1
    have HD1 := Lib.hid hd1
    clear hrd h4 h5 h1 hd1
    gi_wp2_with fail
    have hset := H4.out.set4 (A' := Ad) (n' := d.length) (c' := cd) (l' := 0) (k' := 0) (e' := 0)
    have hbl4 : Below w.heap.size w ((((W.setCell ⟨r, 0, none⟩ (.slice Ad d.length cd)).setCell ⟨r + 1, 0, none⟩ (.int .i64 0)).setCell ⟨r + 1 + 1, 0, none⟩ (.int .i64 0)).setCell ⟨r + 1 + 1 + 1, 0, none⟩ (.int .i64 0)) :=
      ((((H5.out.setCell (p := ⟨r, 0, none⟩) (by show w.heap.size ≤ r; omega) _).setCell (p := ⟨r + 1, 0, none⟩) (by show w.heap.size ≤ r + 1; omega) _).setCell (p := ⟨r + 1 + 1, 0, none⟩) (by show w.heap.size ≤ r + 1 + 1; omega) _).setCell (p := ⟨r + 1 + 1 + 1, 0, none⟩) (by show w.heap.size ≤ r + 1 + 1 + 1; omega) _)
    have ot : ∀ (Y : World) (q q' : Nat) (u : Value), q' ≠ q → (Y.setCell ⟨q, 0, none⟩ u).heap[q']? = Y.heap[q']? := fun Y q q' u hq => heap_setCell_other Y ⟨q, 0, none⟩ q' u hq
    have hoth : ∀ q, q ≠ r → q ≠ r + 1 → q ≠ r + 1 + 1 → q ≠ r + 1 + 1 + 1 → ((((W.setCell ⟨r, 0, none⟩ (.slice Ad d.length cd)).setCell ⟨r + 1, 0, none⟩ (.int .i64 0)).setCell ⟨r + 1 + 1, 0, none⟩ (.int .i64 0)).setCell ⟨r + 1 + 1 + 1, 0, none⟩ (.int .i64 0)).heap[q]? = W.heap[q]? := fun q e0 e1 e2 e3 => by
      rw [ot _ _ _ _ e3, ot _ _ _ _ e2, ot _ _ _ _ e1, ot _ _ _ _ e0]
    obtain ⟨W4, hW4⟩ : ∃ W4, (((W.setCell ⟨r, 0, none⟩ (.slice Ad d.length cd)).setCell ⟨r + 1, 0, none⟩ (.int .i64 0)).setCell ⟨r + 1 + 1, 0, none⟩ (.int .i64 0)).setCell ⟨r + 1 + 1 + 1, 0, none⟩ (.int .i64 0) = W4 := ⟨_, rfl⟩
    rw [hW4] at hset hbl4 hoth ⊢
    clear hW4
    have hK4 : W4.heap[D]? = some (.deferred (some [])) := (hoth D (by omega) (by omega) (by omega) (by omega)).trans hK
    have hres5 : ResT (W4.putObj D (.deferred none)) r Ad d.length cd 0 0 0 := hset.same fun b cs T hb _ => World.putObj_heap_other (fun e => by subst e; rw [hK4] at hb; cases hb)
    have hbw : Below w.heap.size w (W4.putObj D (.deferred none)) := hbl4.trans (belowK_b (w := w2) (n₀ := w.heap.size) (by omega) W4 D _ _ hD hK4 rfl rfl)
    have hkn : ∀ (b : Nat) (cs : Array Value), W.heap[b]? = some (.cells cs 37 (0, 0)) → (W4.putObj D (.deferred none)).heap[b]? = W.heap[b]? := fun b cs hb => by
      have ne : ∀ (q : Nat) (cs' : Array Value) (T : TypeId), W.heap[q]? = some (.cells cs' T (0, 0)) → T ≠ 37 → b ≠ q := fun q cs' T hq hT e => by
        subst e
        rw [hb] at hq
        cases hq
        exact hT rfl
      rw [World.putObj_heap_other (fun e => by subst e; rw [hK] at hb; cases hb)]
      exact hoth b (ne _ _ _ H4.out.a (by decide)) (ne _ _ _ H4.out.b (by decide)) (ne _ _ _ H4.out.c (by decide)) (ne _ _ _ H4.out.d (by decide))
    have hdle : d.length ≤ 1000000 := by
      have h1 := HRD.out.dl
      have h2 := tellB_len s HSS.out
      rw [← hys] at h2
      omega
    have hsl := sl_row (d := 50) (F := fun g => w.heap.size ≤ g ∧ ∃ cs, W.heap[g]? = some (.cells cs 37 (0, 0))) HRD.out.rowD (fun g hg => ⟨(HRD.out.rowD.lt g hg).1, ownsRow_node HRD.out.rowD hg⟩) hdle (fun e he => (HRD.out.dn e he).mono fun g hg => ⟨hg.1, hg.2.1⟩)
    rw [HD1.out] at hsl
    have hsl5 := (hsl.keep (W' := W4.putObj D (.deferred none)) fun b hb => by obtain ⟨_, cs, hcs⟩ := hb; exact hkn b cs hcs).mono (B' := fun g => w.heap.size ≤ g ∧ g < (W4.putObj D (.deferred none)).heap.size) (fun b hb => by
      obtain ⟨h1, cs, hcs⟩ := hb
      exact ⟨h1, (Array.getElem?_eq_some_iff.1 ((hkn b cs hcs).trans hcs)).1⟩)
    refine ⟨by simp, .inl ⟨_, _, rfl, run_takeDeferred hK4, ?_⟩⟩
    refine ⟨_, resT_end _ r _ _ _ _ _ _ hres5 _ rfl rfl rfl rfl, ?_, hbw⟩
    rw [← hys, H1.out]
    exact ⟨Ad, cd, by rw [HDL.out], hsl5⟩
  case stop =>
    rintro D c pre W hD hsp ⟨rfl, p, x, st, rfl, h2, h3, h4, h5⟩ hK
    have h4b : ResT (W.putObj D (.deferred none)) r none 0 0 (x.2.2.1 : Int) (x.2.2.2 : Int) 50 := h4.same fun b cs T hb _ => World.putObj_heap_other (fun e => by subst e; rw [hK] at hb; cases hb)
    obtain ⟨⟨c0, c1, c2, c3⟩, f0, f1, f2, f3⟩ := h4b.cells
    have HRR := HR.out
    have hbw : Below w.heap.size w (W.putObj D (.deferred none)) := h5.trans (belowK_b (w := w2) (n₀ := w.heap.size) (by omega) W D _ _ hD hK rfl rfl)
    obtain ⟨q, hq⟩ := hsp
    have HE : Hid (ParseT w s (.returned (.tuple #[.slice none 0 0, .int .i64 (x.2.2.1 : Int), .int .i64 (x.2.2.2 : Int), .int .i64 50])) (W.putObj D (.deferred none))) := by
      refine ⟨?_, hbw⟩
      rw [← hq, runA_stop p q x _ st h2 h3]
    have H4B := Lib.hid h4b
    clear h2 h3 h4 h5 h4b hbw hq
    gi_wp2
    refine ⟨by simp, .inl ⟨_, _, rfl, run_takeDeferred hK, ?_⟩⟩
    exact ⟨_, resT_end _ r _ _ _ _ _ _ H4B.out _ rfl rfl rfl rfl, HE.out⟩
theorem parseT_any (s : ByteArray) (w : World) (hs : s.size ≤ 50000) (herr : Errs w) (htab : Tab w) : Calls Tryz.prog 6 #[.string s] w (ParseT w s) :=
  (callsIn_wide (n := 9)).1 (parse_in 9 (Nat.le_of_ble_eq_true rfl) s w hs herr htab)
end Go.Proofs.YthbighnkohjfnaaGreatDoor
