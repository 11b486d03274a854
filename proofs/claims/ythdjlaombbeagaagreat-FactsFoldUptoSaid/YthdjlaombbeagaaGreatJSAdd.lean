/-
  CONTRACT: what adds a span to a set (adderTo's value).
-/
import Derived.RangeFuncBox
import Derived.OwnWalk
import Derived.StillTailTactics
import Derived.Test.YthdjlaombbeagaaGreatJSSet
namespace Go.Proofs.YthdjlaombbeagaaGreat
open Go.RowKit

theorem info92 : (Tryz.prog.info? 88).map (fun i => (i.zero, i.size, i.bytes)) = some (some (.agg #[.int .i64 0, .int .i64 0]), 2, 16) := by kernel_rfl
def cellsS (s : Sp) : List Value := [.int .i64 s.1, .int .i64 s.2]
theorem cellsS_one (s : Sp) : ∀ u ∈ cellsS s, u.oneCell' = true := by
  intro u hu
  simp [cellsS] at hu
  rcases hu with rfl | rfl <;> rfl
/-- a slice of spans in blocks from B on, which the call has to itself -/
def OwnS (W : World) (B : Nat) (v : Value) (l : List Sp) : Prop := W.ownsRow B 88 2 v l.length (l.flatMap cellsS)
theorem flatS {l : List Sp} {j i : Nat} (hi : i < 2) : (l.flatMap cellsS)[j * 2 + i]? = l[j]?.bind fun x => (cellsS x)[i]? := by
  induction l generalizing j with
  | nil => simp
  | cons x l ih =>
    cases j with
    | zero =>
      rw [List.flatMap_cons, List.getElem?_append_left (by show 0 * 2 + i < 2; omega)]
      simp
    | succ j =>
      have e : (j + 1) * 2 + i = 2 + (j * 2 + i) := by omega
      rw [List.flatMap_cons, e, List.getElem?_append_right (by show 2 ≤ _; omega), show (cellsS x).length = 2 from rfl, Nat.add_sub_cancel_left, ih]
      simp
theorem flatS_len (l : List Sp) : (l.flatMap cellsS).length = l.length * 2 := by
  induction l with
  | nil => rfl
  | cons x l ih => rw [List.flatMap_cons, List.length_append, ih, List.length_cons]; show 2 + _ = _; omega
theorem OwnS.sls {W : World} {B : Nat} {v : Value} {l : List Sp} (h : OwnS W B v l) : ∃ A c, v = .slice A l.length c ∧ SlS W W.heap.size A l ∧ l.length ≤ c ∧ c ≤ maxLen := by
  rcases h.2 with ⟨rfl, h0⟩ | ⟨g, cap, cur, rfl, _, hgb, h1, h2, _⟩
  · exact ⟨none, 0, by rw [h0], fun hl => absurd (List.length_eq_zero_iff.1 h0) hl, by omega, Nat.zero_le _⟩
  · refine ⟨_, _, rfl, fun _ => ⟨g, 0, rfl, (Array.getElem?_eq_some_iff.1 hgb).1, fun j p hp => ?_⟩, h1, h2⟩
    have hr : W.ownsRow B 88 2 (.slice (some ⟨g, 0, none⟩) l.length cap) l.length (l.flatMap cellsS) := h
    have hj : j < l.length := (List.getElem?_eq_some_iff.1 hp).1
    have hc : ∀ i, i < 2 → W.cell? ⟨g, j * 2 + i, none⟩ = (cellsS p)[i]? := fun i hi => by
      rw [hr.cellAt (j * 2 + i) (by omega), flatS hi, hp]; rfl
    rw [Nat.zero_add]
    exact ⟨hc 0 (by omega), hc 1 (by omega)⟩
theorem ownS_nil (W : World) (B : Nat) : OwnS W B (.slice none 0 0) [] := World.ownsRow_nil _ _ _ _
theorem ownS_snoc {W : World} {B : Nat} {v : Value} {l : List Sp} {s : Sp} (h : W.ownsRow B 88 2 v (l.length + 1) (l.flatMap cellsS ++ cellsS s)) : OwnS W B v (l ++ [s]) := by
  show World.ownsRow _ _ _ _ _ _ _
  simpa using h
theorem OwnS.kept {W W' : World} {B : Nat} {v : Value} {l : List Sp} {row : Option Nat} (h : OwnS W B v l) (hg : W.grownBy W' row) (hr : ∀ r, row = some r → ∃ o : Obj, W.heap[r]? = some o ∧ o.isCells = false) : OwnS W' B v l := by
  refine World.ownsRow.kept (row := row) h hg ?_
  rcases h.2 with ⟨rfl, _⟩ | ⟨g, cap, cur, rfl, _, hgb, _⟩
  · exact .inl rfl
  · refine .inr fun e => ?_
    obtain ⟨_, ho, hc⟩ := hr g (by rw [← e]; rfl)
    rw [hgb] at ho
    cases ho
    simp [Obj.isCells] at hc
theorem OwnS.alloc {W : World} {B : Nat} {v : Value} {l : List Sp} (h : OwnS W B v l) (o : Obj) : OwnS (W.alloc o) B v l := World.ownsRow.alloc h o
theorem OwnS.next {W W' : World} {B : Nat} {v : Value} {l : List Sp} (h : OwnS W B v l) (hb : Below W.heap.size W W') : OwnS W' B v l := h.kept (row := none) ⟨hb.os, hb.tape, hb.output, hb.size, fun k hk _ => hb.block k hk⟩ (fun r e => by cases e)

/-- a step that turns a box and a row alone -/
structure Adds (W W' : World) (Bs : Nat) (r : Option Nat) : Prop where
  os : W'.os = W.os
  tape : W'.tape = W.tape
  output : W'.output = W.output
  size : W.heap.size ≤ W'.heap.size
  block : ∀ k, k < W.heap.size → k ≠ Bs → some k ≠ r → W'.heap[k]? = W.heap[k]?
theorem Adds.boxed {W W' : World} {Bs b base n : Nat} {t e : TypeId} {u v : Value} {xs : List Value} {size : Nat} (h : Adds W W' Bs v.ownBlock) (hb : Boxed W b t u) (hne : b ≠ Bs) (hte : t ≠ e) (ho : W.ownsRow base e size v n xs) : Boxed W' b t u :=
  (h.block b hb.lt hne (hb.not_row hte ho)).trans hb
theorem Adds.below {W W' : World} {Bs n0 n : Nat} {e : TypeId} {v : Value} {xs : List Value} {size : Nat} (h : Adds W W' Bs v.ownBlock) (hB : n0 ≤ Bs) (ho : W.ownsRow n0 e size v n xs) (hn : n0 ≤ W.heap.size) : Below n0 W W' :=
  ⟨h.os, h.tape, h.output, h.size, fun k hk => h.block k (by omega) (by omega) (fun e => by have := (ho.lt k e.symm).1; omega)⟩
theorem Adds.others {W W' : World} {Bs n0 n : Nat} {t e : TypeId} {u v : Value} {xs : List Value} {size : Nat} (h : Adds W W' Bs v.ownBlock) (hb : Boxed W Bs t u) (ho : W.ownsRow n0 e size v n xs) : KeepsOthers W W' :=
  ⟨h.size, fun k o hk hc => by
    have hlt := (Array.getElem?_eq_some_iff.1 hk).1
    refine (h.block k hlt (fun ek => ?_) (fun ek => ?_)).trans hk
    · subst ek
      rw [show W.heap[k]? = _ from hb] at hk
      cases hk
      cases hc
    · rcases ho.2 with ⟨rfl, _⟩ | ⟨g, cap, cur, rfl, _, hgb, _⟩
      · simp [Value.ownBlock] at ek
      · obtain rfl : k = g := by simpa [Value.ownBlock] using ek
        rw [hgb] at hk
        cases hk
        cases hc⟩

/-- What adding a span leaves. -/
def AddEnd (W : World) (n0 Bs : Nat) (r : Option Nat) (l : List Sp) (e : Ending) (W' : World) : Prop :=
  e = .returned (.tuple #[]) ∧ Adds W W' Bs r ∧ ∃ v', Boxed W' Bs 60 v' ∧ OwnS W' n0 v' l

theorem cell_litS (W : World) (cs : Array Value) (t : TypeId) (j : Nat) (u : Value) (h : cs.toList[j]? = some u) : (W.alloc (.cells cs t)).cell? ((⟨W.heap.size, 0, none⟩ : Addr).add j) = some u := cell_lit W cs t j u h

/-- what the region that appends reads -/
def SAddR (Bb Bs bx : Nat) (x y : Int) (W : World) : Prop := Boxed W Bb 125 (.pointer (some ⟨Bs, 0, none⟩)) ∧ W.cell? ⟨bx, 0, none⟩ = some (.int .i64 x) ∧ W.cell? ⟨bx, 1, none⟩ = some (.int .i64 y)
theorem Adds.append {W W5 w4 : World} {Bs : Nat} {r : Option Nat} {o : Obj} (h : Adds W W5 Bs r) (hs : W5.heap.size = W.heap.size + 1) (hg : (W5.alloc o).drew.grownBy w4 r) (u : Value) : Adds W (w4.setCell ⟨Bs, 0, none⟩ u) Bs r :=
  ⟨hg.os.trans h.os, hg.tape.trans h.tape, hg.output.trans h.output, by
    have h1 : (W5.alloc o).heap.size ≤ w4.heap.size := hg.size
    have h2 := (KeepsWalks.setCell w4 ⟨Bs, 0, none⟩ u).size
    rw [World.size_alloc] at h1
    omega, fun k hk h1 h2 => by
    refine (Below.heap_setCell w4 ⟨Bs, 0, none⟩ u k h1).trans ?_
    refine (hg.block k (by show k < (W5.alloc o).heap.size; rw [World.size_alloc]; omega) h2).trans ?_
    exact (Below.heap_alloc W5 o k (by omega)).trans (h.block k hk h1 h2)⟩
theorem SAddR.grown {Bb Bs bx : Nat} {x y : Int} {W W' : World} {r : Option Nat} (h : SAddR Bb Bs bx x y W) (hg : W.grownBy W' r) (hr : ∀ k, r = some k → k < bx) (hb : some Bb ≠ r) : SAddR Bb Bs bx x y W' :=
  ⟨h.1.kept hg hb, hg.cell h.2.1 (fun e => by have := hr bx e.symm; omega), hg.cell h.2.2 (fun e => by have := hr bx e.symm; omega)⟩
theorem SAddR.store {Bb Bs bx : Nat} {x y : Int} {W : World} {u : Value} (h : SAddR Bb Bs bx x y W) (h1 : Bb ≠ Bs) (h2 : bx ≠ Bs) : SAddR Bb Bs bx x y (W.setCell ⟨Bs, 0, none⟩ u) :=
  ⟨(Below.heap_setCell W ⟨Bs, 0, none⟩ u Bb h1).trans h.1, (World.cell?_setCell_other W _ _ u (fun e => h2 (by injection e with e _ _; exact e.symm))).trans h.2.1, (World.cell?_setCell_other W _ _ u (fun e => h2 (by injection e with e _ _; exact e.symm))).trans h.2.2⟩
theorem OwnS.row {W : World} {B n : Nat} {v : Value} {l : List Sp} (h : OwnS W B v l) (hn : l.length = n) : W.ownsRow B 88 2 v n (l.flatMap cellsS) := by
  subst hn; exact h
theorem ownS_snoc' {W : World} {B n : Nat} {v : Value} {l : List Sp} {s : Sp} (hn : l.length = n) (h : W.ownsRow B 88 2 v (n + 1) (l.flatMap cellsS ++ cellsS s)) : OwnS W B v (l ++ [s]) := by
  subst hn; exact ownS_snoc h
theorem boxed_ne {W : World} {b b' : Nat} {t t' : TypeId} {u u' : Value} (h : Boxed W b t u) (h' : Boxed W b' t' u') (ht : t ≠ t') : b ≠ b' := by
  rintro rfl
  have := (show W.heap[b]? = _ from h).symm.trans h'
  simp at this
  exact ht this.2
theorem SAddR.alloc {Bb Bs bx : Nat} {x y : Int} {W : World} (h : SAddR Bb Bs bx x y W) (o : Obj) : SAddR Bb Bs bx x y (W.alloc o) := by
  obtain ⟨h1, h3, h4⟩ := h
  have lt : bx < W.heap.size := by
    unfold World.cell? at h3
    cases hb : W.heap[bx]? with
    | none => rw [hb] at h3; cases h3
    | some o => exact (Array.getElem?_eq_some_iff.1 hb).1
  exact ⟨h1.alloc _, (World.cell?_alloc_lt _ _ ⟨bx, 0, none⟩ lt).trans h3, (World.cell?_alloc_lt _ _ ⟨bx, 1, none⟩ lt).trans h4⟩

set_option maxRecDepth 100000 in
set_option maxHeartbeats 4000000 in
theorem add_nil (n0 Bb Bs : Nat) (A : Option Addr) (c : Nat) (x y : Int) (W : World) (hb : Boxed W Bb 125 (.pointer (some ⟨Bs, 0, none⟩))) (hv : Boxed W Bs 60 (.slice A 0 c)) (ho : OwnS W n0 (.slice A 0 c) []) (hn : n0 ≤ W.heap.size) :
    Calls Tryz.prog 107 #[.agg #[.int .i64 x, .int .i64 y], .pointer (some ⟨Bb, 0, none⟩)] W (AddEnd W n0 Bs (Value.slice A 0 c).ownBlock [(x, y)]) := by
  obtain ⟨i0, hi, hz0, hz1, hz2⟩ := info_parts info92
  have hmx : 50000 ≤ maxLen := by decide
  have b0 := (hb.alloc (.cells #[.int .i64 x, .int .i64 y] 88)).cell
  have b1 := (hv.alloc (.cells #[.int .i64 x, .int .i64 y] 88)).cell
  have HB := Lib.hid hb
  have HV := Lib.hid hv
  have HO := Lib.hid ho
  clear hb hv ho
  go_enter Tryz.func107, Tryz.ntmps107
  go_wp2
  go_quiet (fail)
  go_wp2
  clear b0 b1
  obtain ⟨W5, hW5⟩ : ∃ W5, (W.alloc (.cells #[.int .i64 x, .int .i64 y] 88)).drewN nq = W5 := ⟨_, rfl⟩
  have HO5 : Hid (OwnS W5 n0 (.slice A 0 c) []) := by rw [← hW5]; exact HO.out.alloc _
  have HS5 : Hid (SAddR Bb Bs W.heap.size x y W5) := by
    rw [← hW5]
    exact ⟨HB.out.alloc _, by show (World.alloc _ _).cell? _ = _; go_simp, by show (World.alloc _ _).cell? _ = _; go_simp⟩
  have HV5 : Hid (Boxed W5 Bs 60 (.slice A 0 c)) := by rw [← hW5]; exact HV.out.alloc _
  have HA5 : Hid (Adds W W5 Bs (Value.ownBlock (.slice A 0 c)) ∧ W5.heap.size = W.heap.size + 1) := by
    rw [← hW5]
    exact ⟨⟨rfl, rfl, rfl, by simp, fun k hk _ _ => Below.heap_alloc _ _ k hk⟩, by simp⟩
  rw [hW5]
  clear hW5
  refine wp_region_held_drew (S := SAddR Bb Bs W.heap.size x y) (by kernel_rfl) HS5.out (fun hHeld => ?_)
  refine takeQ 0 35 ((.pointer (some ⟨Bs, 0, none⟩))) ?_ (hy := by (intro _w hSw; have q0 := hSw.1.cell; clear hSw; go_simp))
  simp only [Act.put, List.setIfInBounds_toArray, List.set_cons_zero, List.set_cons_succ]
  refine takeQ 1 36 ((.slice A 0 c)) ?_
  simp only [Act.put, List.setIfInBounds_toArray, List.set_cons_zero, List.set_cons_succ]
  refine takeQ 2 37 ((.agg #[.int .i64 x, .int .i64 y])) ?_ (hy := by (intro _w hSw; have q0 := hSw.2.1; have q1 := hSw.2.2; clear hSw; go_simp))
  simp only [Act.put, List.setIfInBounds_toArray, List.set_cons_zero, List.set_cons_succ]
  refine callV 3 rfl (by kernel_rfl) (by rfl) (fun K hK => ?_)
  go_simp
  refine hK.out _ _ (SAddR.alloc hHeld _) (fun hHeld2 => ?_)
  clear hK K hHeld
  try simp only [Act.put, List.setIfInBounds_toArray, List.set_cons_zero, List.set_cons_succ]
  refine callV 4 rfl (by kernel_rfl) (by rfl) (fun K hK => ?_)
  refine wp_append_own _ _ _ 60 rfl n0 88 i0 (.agg #[.int .i64 0, .int .i64 0]) 2 16 Tryz.underlying60 hi hz0 hz1 hz2 rfl (by decide) (.slice A 0 c) (0) _ rfl (OwnS.row (OwnS.alloc (W := W5) HO5.out (.cells #[.int .i64 x, .int .i64 y] 88)) rfl) ⟨W5.heap.size, 0, none⟩ 1 1 (cellsS (x, y)) rfl rfl (fun j u h => cell_litS _ _ _ j u h) (cellsS_one _) (by omega) (by omega) (by show n0 ≤ (World.alloc _ _).heap.size; have := HA5.out.2; simp; omega) ?_
  intro v' w4 hown' hgrow _
  obtain ⟨g', cap', rfl⟩ := ownsRow_succ hown'
  have hv4 : Boxed w4 Bs 60 (.slice A 0 c) := Boxed.kept (W := (W5.alloc _).drew) (HV5.out.alloc _) hgrow (HV5.out.not_row (by decide) HO5.out)
  have y0 := hv4.cell
  have y1 := hv4.frozen
  have hown2 := hown'.kept (grownBy_setCell' w4 Bs (.slice (some ⟨g', 0, none⟩) (0 + 1) cap')) (.inr (hv4.not_row (by decide) hown').symm)
  have hadd := HA5.out.1.append HA5.out.2 hgrow (.slice (some ⟨g', 0, none⟩) (0 + 1) cap')
  have hS4 := hHeld2.grown hgrow (fun k e => by have := (HO.out.lt k e).2; omega) (hHeld2.1.not_row (by decide) (World.ownsRow.alloc HO5.out _))
  have HF := Lib.hid (show AddEnd W n0 Bs (Value.ownBlock (.slice A 0 c)) ([] ++ [(x, y)]) (.returned (.tuple #[])) (w4.setCell ⟨Bs, 0, none⟩ (.slice (some ⟨g', 0, none⟩) (0 + 1) cap')) from ⟨rfl, hadd, _, hv4.set _, ownS_snoc' rfl hown2⟩)
  have hS6 := hS4.store (u := .slice (some ⟨g', 0, none⟩) (0 + 1) cap') (boxed_ne HB.out HV.out (by decide)) (by have := HV.out.lt; omega)
  clear hown' hgrow hown2 hadd hv4
  refine hK.out _ _ hS4 (fun hHeld4 => ?_)
  clear hK K hHeld2
  try simp only [Act.put, List.setIfInBounds_toArray]
  refine takeQ 5 40 ((.pointer (some ⟨Bs, 0, none⟩))) ?_
  simp only [Act.put]
  refine callV 6 rfl (by kernel_rfl) (by rfl) (fun K hK => ?_)
  go_simp
  refine hK.out _ _ hS6 (fun hHeld6 => ?_)
  clear hK K hHeld4
  try simp only [Act.put, List.setIfInBounds_toArray, List.set_cons_zero, List.set_cons_succ]
  refine wpAnyH_done (by kernel_rfl) ?_ _
  clear y0 y1
  go_wp2
  go_end0
  exact HF.out

set_option maxRecDepth 100000 in
set_option maxHeartbeats 4000000 in
theorem add_gap (n0 Bb Bs : Nat) (r : List Sp) (p : Sp) (v : Value) (x y : Int) (W : World) (hb : Boxed W Bb 125 (.pointer (some ⟨Bs, 0, none⟩))) (hv : Boxed W Bs 60 v) (ho : OwnS W n0 v (r ++ [p])) (hn : n0 ≤ W.heap.size) (hl : r.length ≤ 20000) (hlt : p.2 < x) :
    Calls Tryz.prog 107 #[.agg #[.int .i64 x, .int .i64 y], .pointer (some ⟨Bb, 0, none⟩)] W (AddEnd W n0 Bs v.ownBlock (r ++ [p] ++ [(x, y)])) := by
  obtain ⟨i0, hi, hz0, hz1, hz2⟩ := info_parts info92
  have hmx : 50000 ≤ maxLen := by decide
  have hol : W.ownsRow n0 88 2 v (r.length + 1) ((r ++ [p]).flatMap cellsS) := by have h9 : W.ownsRow n0 88 2 v (r ++ [p]).length ((r ++ [p]).flatMap cellsS) := ho; rwa [List.length_append] at h9
  obtain ⟨g, cap, rfl⟩ := ownsRow_succ hol
  have hgl := (ho.lt g rfl).2
  have hcl : W.cell? ⟨g, r.length * 2 + 1, none⟩ = some (.int .i64 p.2) := by
    rw [hol.cellAt (r.length * 2 + 1) (by omega), flatS (by omega)]
    simp [cellsS]
  have hcl1 : (W.alloc (.cells #[.int .i64 x, .int .i64 y] 88)).cell? ⟨g, r.length * 2 + 1, none⟩ = some (.int .i64 p.2) := (World.cell?_alloc_lt _ _ ⟨g, _, none⟩ hgl).trans hcl
  have b0 := (hb.alloc (.cells #[.int .i64 x, .int .i64 y] 88)).cell
  have b1 := (hv.alloc (.cells #[.int .i64 x, .int .i64 y] 88)).cell
  have hd : decide (x ≤ p.2) = false := decide_eq_false (by omega)
  have hr0 : (0 : Int) ≤ (r.length : Int) := by omega
  have hlen : (r ++ [p]).length = r.length + 1 := by simp
  have HLEN := Lib.hid hlen
  have HB := Lib.hid hb
  have HV := Lib.hid hv
  have HO := Lib.hid ho
  clear hb hv ho hol hcl hlen hlt
  go_enter Tryz.func107, Tryz.ntmps107
  go_wp2
  go_quiet (fail)
  go_wp2
  clear b0 b1 hcl1
  obtain ⟨W5, hW5⟩ : ∃ W5, (W.alloc (.cells #[.int .i64 x, .int .i64 y] 88)).drewN nq = W5 := ⟨_, rfl⟩
  have HO5 : Hid (OwnS W5 n0 (.slice (some ⟨g, 0, none⟩) (r.length + 1) cap) (r ++ [p])) := by rw [← hW5]; exact HO.out.alloc _
  have HS5 : Hid (SAddR Bb Bs W.heap.size x y W5) := by
    rw [← hW5]
    exact ⟨HB.out.alloc _, by show (World.alloc _ _).cell? _ = _; go_simp, by show (World.alloc _ _).cell? _ = _; go_simp⟩
  have HV5 : Hid (Boxed W5 Bs 60 (.slice (some ⟨g, 0, none⟩) (r.length + 1) cap)) := by rw [← hW5]; exact HV.out.alloc _
  have HA5 : Hid (Adds W W5 Bs (Value.ownBlock (.slice (some ⟨g, 0, none⟩) (r.length + 1) cap)) ∧ W5.heap.size = W.heap.size + 1) := by
    rw [← hW5]
    exact ⟨⟨rfl, rfl, rfl, by simp, fun k hk _ _ => Below.heap_alloc _ _ k hk⟩, by simp⟩
  rw [hW5]
  clear hW5
  refine wp_region_held_drew (S := SAddR Bb Bs W.heap.size x y) (by kernel_rfl) HS5.out (fun hHeld => ?_)
  refine takeQ 0 35 ((.pointer (some ⟨Bs, 0, none⟩))) ?_ (hy := by (intro _w hSw; have q0 := hSw.1.cell; clear hSw; go_simp))
  simp only [Act.put, List.setIfInBounds_toArray, List.set_cons_zero, List.set_cons_succ]
  refine takeQ 1 36 ((.slice (some ⟨g, 0, none⟩) (r.length + 1) cap)) ?_
  simp only [Act.put, List.setIfInBounds_toArray, List.set_cons_zero, List.set_cons_succ]
  refine takeQ 2 37 ((.agg #[.int .i64 x, .int .i64 y])) ?_ (hy := by (intro _w hSw; have q0 := hSw.2.1; have q1 := hSw.2.2; clear hSw; go_simp))
  simp only [Act.put, List.setIfInBounds_toArray, List.set_cons_zero, List.set_cons_succ]
  refine callV 3 rfl (by kernel_rfl) (by rfl) (fun K hK => ?_)
  go_simp
  refine hK.out _ _ (SAddR.alloc hHeld _) (fun hHeld2 => ?_)
  clear hK K hHeld
  try simp only [Act.put, List.setIfInBounds_toArray, List.set_cons_zero, List.set_cons_succ]
  refine callV 4 rfl (by kernel_rfl) (by rfl) (fun K hK => ?_)
  refine wp_append_own _ _ _ 60 rfl n0 88 i0 (.agg #[.int .i64 0, .int .i64 0]) 2 16 Tryz.underlying60 hi hz0 hz1 hz2 rfl (by decide) (.slice (some ⟨g, 0, none⟩) (r.length + 1) cap) (r.length + 1) _ rfl (OwnS.row (OwnS.alloc (W := W5) HO5.out (.cells #[.int .i64 x, .int .i64 y] 88)) HLEN.out) ⟨W5.heap.size, 0, none⟩ 1 1 (cellsS (x, y)) rfl rfl (fun j u h => cell_litS _ _ _ j u h) (cellsS_one _) (by omega) (by omega) (by show n0 ≤ (World.alloc _ _).heap.size; have := HA5.out.2; simp; omega) ?_
  intro v' w4 hown' hgrow _
  obtain ⟨g', cap', rfl⟩ := ownsRow_succ hown'
  have hv4 : Boxed w4 Bs 60 (.slice (some ⟨g, 0, none⟩) (r.length + 1) cap) := Boxed.kept (W := (W5.alloc _).drew) (HV5.out.alloc _) hgrow (HV5.out.not_row (by decide) HO5.out)
  have y0 := hv4.cell
  have y1 := hv4.frozen
  have hown2 := hown'.kept (grownBy_setCell' w4 Bs (.slice (some ⟨g', 0, none⟩) (r.length + 1 + 1) cap')) (.inr (hv4.not_row (by decide) hown').symm)
  have hadd := HA5.out.1.append HA5.out.2 hgrow (.slice (some ⟨g', 0, none⟩) (r.length + 1 + 1) cap')
  have hS4 := hHeld2.grown hgrow (fun k e => by have := (HO.out.lt k e).2; omega) (hHeld2.1.not_row (by decide) (World.ownsRow.alloc HO5.out _))
  have HF := Lib.hid (show AddEnd W n0 Bs (Value.ownBlock (.slice (some ⟨g, 0, none⟩) (r.length + 1) cap)) ((r ++ [p]) ++ [(x, y)]) (.returned (.tuple #[])) (w4.setCell ⟨Bs, 0, none⟩ (.slice (some ⟨g', 0, none⟩) (r.length + 1 + 1) cap')) from ⟨rfl, hadd, _, hv4.set _, ownS_snoc' HLEN.out hown2⟩)
  have hS6 := hS4.store (u := .slice (some ⟨g', 0, none⟩) (r.length + 1 + 1) cap') (boxed_ne HB.out HV.out (by decide)) (by have := HV.out.lt; omega)
  clear hown' hgrow hown2 hadd hv4
  refine hK.out _ _ hS4 (fun hHeld4 => ?_)
  clear hK K hHeld2
  try simp only [Act.put, List.setIfInBounds_toArray]
  refine takeQ 5 40 ((.pointer (some ⟨Bs, 0, none⟩))) ?_
  simp only [Act.put]
  refine callV 6 rfl (by kernel_rfl) (by rfl) (fun K hK => ?_)
  go_simp
  refine hK.out _ _ hS6 (fun hHeld6 => ?_)
  clear hK K hHeld4
  try simp only [Act.put, List.setIfInBounds_toArray, List.set_cons_zero, List.set_cons_succ]
  refine wpAnyH_done (by kernel_rfl) ?_ _
  clear y0 y1
  go_wp2
  go_end0
  exact HF.out

theorem Adds.store {W W5 w4 : World} {Bs : Nat} {r : Option Nat} (h : Adds W W5 Bs r) (hs : W5.heap.size = W.heap.size + 1) (hg : W5.drew.grownBy w4 r) : Adds W w4 Bs r :=
  ⟨hg.os.trans h.os, hg.tape.trans h.tape, hg.output.trans h.output, by
    have h1 : W5.heap.size ≤ w4.heap.size := hg.size
    omega, fun k hk h1 h2 => (hg.block k (by show k < W5.heap.size; omega) h2).trans (h.block k hk h1 h2)⟩
theorem flatS_set {r : List Sp} {p : Sp} (u : Int) : ((r ++ [p]).flatMap cellsS).set (r.length * 2 + 1) (.int .i64 u) = (r ++ [(p.1, u)]).flatMap cellsS := by
  rw [List.flatMap_append, List.flatMap_append, List.set_append, if_neg (by rw [flatS_len]; omega), flatS_len, Nat.add_sub_cancel_left]
  rfl
/-- what the region that joins reads -/
def SJoin (g k bx : Nat) (q y : Int) (W : World) : Prop := W.cell? ⟨g, k * 2 + 1, none⟩ = some (.int .i64 q) ∧ W.cell? ⟨bx, 1, none⟩ = some (.int .i64 y)

set_option maxRecDepth 100000 in
set_option maxHeartbeats 4000000 in
theorem add_join (n0 Bb Bs : Nat) (r : List Sp) (p : Sp) (v : Value) (x y : Int) (W : World) (hb : Boxed W Bb 125 (.pointer (some ⟨Bs, 0, none⟩))) (hv : Boxed W Bs 60 v) (ho : OwnS W n0 v (r ++ [p])) (hl : r.length ≤ 20000) (hle : x ≤ p.2) :
    Calls Tryz.prog 107 #[.agg #[.int .i64 x, .int .i64 y], .pointer (some ⟨Bb, 0, none⟩)] W (AddEnd W n0 Bs v.ownBlock (r ++ [(p.1, max p.2 y)])) := by
  have hol : W.ownsRow n0 88 2 v (r.length + 1) ((r ++ [p]).flatMap cellsS) := by have h9 : W.ownsRow n0 88 2 v (r ++ [p]).length ((r ++ [p]).flatMap cellsS) := ho; rwa [List.length_append] at h9
  obtain ⟨g, cap, rfl⟩ := ownsRow_succ hol
  have hgl := (ho.lt g rfl).2
  have hcl : W.cell? ⟨g, r.length * 2 + 1, none⟩ = some (.int .i64 p.2) := by
    rw [hol.cellAt (r.length * 2 + 1) (by omega), flatS (by omega)]
    simp [cellsS]
  have hcl1 : (W.alloc (.cells #[.int .i64 x, .int .i64 y] 88)).cell? ⟨g, r.length * 2 + 1, none⟩ = some (.int .i64 p.2) := (World.cell?_alloc_lt _ _ ⟨g, _, none⟩ hgl).trans hcl
  have hbx : (W.alloc (.cells #[.int .i64 x, .int .i64 y] 88)).cell? ⟨W.heap.size, 1, none⟩ = some (.int .i64 y) := by go_simp
  have b0 := (hb.alloc (.cells #[.int .i64 x, .int .i64 y] 88)).cell
  have b1 := (hv.alloc (.cells #[.int .i64 x, .int .i64 y] 88)).cell
  have hd : decide (x ≤ p.2) = true := decide_eq_true (by omega)
  have hr0 : (0 : Int) ≤ (r.length : Int) := by omega
  have hnl : ¬ ((r.length : Int) + 1 ≤ (r.length : Int)) := by omega
  obtain ⟨M, hM⟩ : ∃ M : Int, (if p.2 < y then y else p.2) = M := ⟨_, rfl⟩
  have HM : Hid (max p.2 y = M) := by
    show _ = _
    rw [← hM]
    split <;> omega
  have HSJ : Hid (SJoin g r.length W.heap.size p.2 y (W.alloc (.cells #[.int .i64 x, .int .i64 y] 88))) := ⟨hcl1, hbx⟩
  have HB := Lib.hid hb
  have HV := Lib.hid hv
  have HO := Lib.hid hol
  clear hb hv ho hol hcl hbx hle
  go_enter Tryz.func107, Tryz.ntmps107
  go_wp2
  go_quiet (fail)
  go_wp2
  clear b0 b1 hcl1
  obtain ⟨W5, hW5⟩ : ∃ W5, (W.alloc (.cells #[.int .i64 x, .int .i64 y] 88)).drewN nq = W5 := ⟨_, rfl⟩
  have HS5 : Hid (SJoin g r.length W.heap.size p.2 y W5) := by rw [← hW5]; exact HSJ.out
  have HO5 : Hid (W5.ownsRow n0 88 2 (.slice (some ⟨g, 0, none⟩) (r.length + 1) cap) (r.length + 1) ((r ++ [p]).flatMap cellsS)) := by rw [← hW5]; exact World.ownsRow.alloc HO.out _
  have HV5 : Hid (Boxed W5 Bs 60 (.slice (some ⟨g, 0, none⟩) (r.length + 1) cap)) := by rw [← hW5]; exact HV.out.alloc _
  have HA5 : Hid (Adds W W5 Bs (some g) ∧ W5.heap.size = W.heap.size + 1) := by
    rw [← hW5]
    exact ⟨⟨rfl, rfl, rfl, by simp, fun k hk _ _ => Below.heap_alloc _ _ k hk⟩, by simp⟩
  rw [hW5]
  clear hW5 HSJ
  have q0 := HS5.out.1
  have q1 := HS5.out.2
  go_still_tail 12, (by kernel_rfl)
  change wpList _ _ _ _ _ W5.drew
  have y0 : W5.drew.cell? ⟨g, r.length * 2 + 1, none⟩ = some (.int .i64 p.2) := HS5.out.1
  have y1 : W5.drew.frozen? ⟨g, r.length * 2 + 1, none⟩ = false := HO5.out.frozenAt _
  have hst := (World.ownsRow.drew HO5.out).stored (r.length * 2 + 1) (.int .i64 M)
  have HF := Lib.hid (show AddEnd W n0 Bs (some g) (r ++ [(p.1, M)]) (.returned (.tuple #[])) (W5.drew.setCell ⟨g, r.length * 2 + 1, none⟩ (.int .i64 M)) from
    ⟨rfl, HA5.out.1.store HA5.out.2 hst.2, _, Boxed.kept (W := W5.drew) HV5.out hst.2 (Boxed.not_row (W := W5.drew) HV5.out (by decide) HO5.out), by
      have h9 := hst.1
      rw [flatS_set] at h9
      show World.ownsRow _ _ _ _ _ _ _
      rw [List.length_append]
      exact h9⟩)
  obtain ⟨wd, hwd⟩ : ∃ wd, W5.drew = wd := ⟨_, rfl⟩
  rw [hwd] at y0 y1 HF
  rw [hwd]
  clear hst q0 q1 hM hwd
  go_wp2
  go_end0
  rw [HM.out]
  exact HF.out

/-- Adding a span to a set that a box holds. -/
theorem add_any (n0 Bb Bs : Nat) (l : List Sp) (v : Value) (x y : Int) (W : World) (hb : Boxed W Bb 125 (.pointer (some ⟨Bs, 0, none⟩))) (hv : Boxed W Bs 60 v) (ho : OwnS W n0 v l) (hn : n0 ≤ W.heap.size) (hl : l.length ≤ 20000) :
    Calls Tryz.prog 107 #[.agg #[.int .i64 x, .int .i64 y], .pointer (some ⟨Bb, 0, none⟩)] W (AddEnd W n0 Bs v.ownBlock (addL l (x, y))) := by
  rcases List.eq_nil_or_concat l with rfl | ⟨r, p, rfl⟩
  · obtain ⟨A, c, rfl, _, _, _⟩ := ho.sls
    exact add_nil n0 Bb Bs A c x y W hb hv ho hn
  · rw [List.concat_eq_append] at ho hl ⊢
    rw [List.length_append, List.length_singleton] at hl
    rw [addL_snoc]
    by_cases h : x ≤ p.2
    · rw [if_pos h]
      exact add_join n0 Bb Bs r p v x y W hb hv ho (by omega) h
    · rw [if_neg h]
      exact add_gap n0 Bb Bs r p v x y W hb hv ho hn (by omega) (by omega)
end Go.Proofs.YthdjlaombbeagaaGreat
