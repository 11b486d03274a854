import Derived.RangeFuncNested
import Derived.RangeFuncBound
import Derived.RangeFuncCalls
import Derived.RangeFuncLeaves
import Derived.RangeFuncBox
import Derived.Shelf.Abstract
import Derived.Shelf.RegionOpen
import Derived.OwnWalkIn
import Derived.TacticsInMore
import Derived.LoopNIn
import Derived.LoopIn
import Derived.Test.YtkoknogefmfmnaaJOKey
import Derived.Deep.QuietTactic
import Derived.BigQuiet
import Derived.Deep.Draws
import Derived.Test.YtkoknogefmfmnaaJLeaf
/-
  CONTRACTS: slices that came in; slices.Clone; slices.Backward, handed to a loop.
-/
namespace Go.Proofs.Ytkoknogefmfmnaa
open Go.RowKit Go.Shelf
attribute [local go_sem] Oper.semAt_some

/-- a slice that reads as these bytes, in blocks below B -/
def SlB (W : World) (B : Nat) (A : Option Addr) (l : List UInt8) : Prop :=
  l ≠ [] → ∃ a, A = some a ∧ a.block < B ∧ ∀ (j : Nat) (x : UInt8), l[j]? = some x → W.cell? (a.add j) = some (.int .u8 x.toNat)
theorem add_block (a : Addr) (j : Nat) : (a.add j).block = a.block := by unfold Addr.add; split <;> rfl
theorem SlB.next {W W' : World} {B : Nat} {A : Option Addr} {l : List UInt8} (h : SlB W B A l) {B' : Nat} (hb : Below B' W W') (hB : B ≤ B') : SlB W' B A l := fun hl => by
  obtain ⟨a, e, hlt, hc⟩ := h hl
  exact ⟨a, e, hlt, fun j x hx => (hb.cell (p := a.add j) (by rw [add_block]; omega)).trans (hc j x hx)⟩
theorem SlB.take {W : World} {B : Nat} {A : Option Addr} {l : List UInt8} (h : SlB W B A l) (n : Nat) : SlB W B A (l.take n) := fun hl => by
  have h0 : l ≠ [] := fun e => hl (by rw [e]; simp)
  obtain ⟨a, e, hlt, hc⟩ := h h0
  refine ⟨a, e, hlt, fun j x hx => hc j x ?_⟩
  rw [List.getElem?_take] at hx
  split at hx
  · exact hx
  · cases hx
theorem SlB.of_own {W : World} {B : Nat} {A : Option Addr} {n c : Nat} {l : List UInt8} (h : OwnB W B (.slice A n c) l) : n = l.length ∧ SlB W W.heap.size A l := by
  rcases h.2 with ⟨e, h0⟩ | ⟨g, cap, cur, e, _, hg, _⟩
  · injection e with _ e _
    exact ⟨by omega, fun hl => absurd (List.length_eq_zero_iff.1 h0) hl⟩
  · injection e with e1 e2 e3
    subst e1 e2 e3
    refine ⟨rfl, fun _ => ⟨_, rfl, (Array.getElem?_eq_some_iff.1 hg).1, fun j x hx => ?_⟩⟩
    rw [add0]
    have hr : W.ownsRow B 5 1 (.slice (some ⟨g, 0, none⟩) l.length c) l.length (cellsL l) := h
    have hj : j < l.length := (List.getElem?_eq_some_iff.1 hx).1
    rw [hr.cellAt j (by omega)]
    unfold cellsL
    rw [List.getElem?_map, hx]; rfl
theorem slB_string {W : World} {B : Nat} {A : Option Addr} {l : List UInt8} (h : SlB W B A l) (c : Nat) : (convert 39 9 (.slice A l.length c)).run Try.prog W = .ok (.string ⟨l.toArray⟩) W := by
  cases A with
  | none =>
    have h0 : l = [] := by
      by_cases hl : l = []
      · exact hl
      · obtain ⟨a, e, _⟩ := h hl
        cases e
    subst h0
    exact Lib.run_convert_nil_bytes W _ _ _ c Try.underlying39 Try.underlying5 Try.underlying9
  | some a =>
    refine run_convert_bytes_back W _ _ _ a c l Try.underlying39 Try.underlying5 Try.underlying9 (fun j hj => ?_)
    have hl : l ≠ [] := fun e => by rw [e] at hj; simp at hj
    obtain ⟨a', e, _, hc⟩ := h hl
    injection e with e
    subst e
    exact hc j _ (List.getElem?_eq_getElem hj)

/-- a place, and the byte that stands there -/
structure Pl (l : List UInt8) where
  i : Nat
  c : UInt8
  at_ : l[i]? = some c
/-- places and bytes, the last one first -/
def backFrom (l : List UInt8) : Nat → List (Pl l)
  | 0 => []
  | j + 1 => (if h : j < l.length then [⟨j, l[j], List.getElem?_eq_getElem h⟩] else []) ++ backFrom l j
def backL (l : List UInt8) : List (Pl l) := backFrom l l.length
theorem backFrom_step (l : List UInt8) (j : Nat) (h : j < l.length) : backFrom l (j + 1) = ⟨j, l[j], List.getElem?_eq_getElem h⟩ :: backFrom l j := by
  show (if h : j < l.length then [⟨j, l[j], List.getElem?_eq_getElem h⟩] else []) ++ backFrom l j = _
  rw [dif_pos h]; rfl

/-- What lay below n₀, and in block Bt, lies. -/
structure Keeps (n₀ Bt : Nat) (A B : World) : Prop where
  low : Below n₀ A B
  box : B.heap[Bt]? = A.heap[Bt]?
theorem Keeps.refl (n₀ Bt : Nat) (A : World) : Keeps n₀ Bt A A := ⟨Below.refl _ _, rfl⟩
theorem Keeps.trans {n₀ Bt : Nat} {A B C : World} (h : Keeps n₀ Bt A B) (k : Keeps n₀ Bt B C) : Keeps n₀ Bt A C := ⟨h.low.trans k.low, k.box.trans h.box⟩
theorem Keeps.cell {n₀ Bt : Nat} {A B : World} (h : Keeps n₀ Bt A B) (i : Nat) : B.cell? ⟨Bt, i, none⟩ = A.cell? ⟨Bt, i, none⟩ := World.cell?_of_block (w := A) (a := ⟨Bt, i, none⟩) h.box
theorem wide_deep (k : Nat) : Fence.wide.depth.isSome = true → 1 ≤ k := fun h => by cases h
theorem wide_room (k : Nat) : Fence.wide.room k := fun d h => by cases h
theorem RoundIn.anyDepth {m m' : Nat} {P : Program} {l : Nat} {f : FuncId} {tmps : Array Value} {assign body : Code} {w : World} {R : Ending → World → Prop}
    (h : RoundIn Fence.wide m P l f tmps assign body w R) : RoundIn Fence.wide m' P l f tmps assign body w R := ⟨h.1, fun c cs _ => h.2 c cs (wide_room _)⟩
theorem YieldAt.anyDepth {m : Nat} (m' : Nat) {P : Program} {l : Nat} {args : Array Value} {W : World} {R : Ending → World → Prop} (h : YieldAt Fence.wide m P l args W R) : YieldAt Fence.wide m' P l args W R := by
  obtain ⟨fn, tmps, assign, body, hy, hR⟩ := h
  exact ⟨fn, tmps, assign, body, hy, RoundIn.anyDepth hR⟩
theorem keeps_b {n₀ Bt : Nat} {w : World} (hn : n₀ ≤ w.heap.size) (hb : Bt < w.heap.size) (W : World) (l : Nat) (o o' : Obj) (hl : w.heap.size ≤ l) (h : W.heap[l]? = some o) (h1 : o.isCells = false) (h2 : o.isWalk = false) : Keeps n₀ Bt W (W.putObj l o') :=
  ⟨belowK_b hn W l o o' hl h h1 h2, (belowK_b (n₀ := w.heap.size) (Nat.le_refl _) W l o o' hl h h1 h2).block Bt hb⟩

/-- One round of the loop that is handed places and bytes. -/
def HandsB (t : List UInt8) (l n₀ Bt N : Nat) (J Jx : List (Pl t) → World → Prop) : Prop :=
  ∀ m pre (x : Pl t) W, J pre W → pre.length < N → YieldAt Fence.wide m Try.prog l #[.int .i64 (x.i : Int), .int .u8 x.c.toNat] W fun e W' =>
    (e = .returned (.bool true) ∧ J (pre ++ [x]) W' ∧ Keeps n₀ Bt W W') ∨ (e = .returned (.bool false) ∧ Jx (pre ++ [x]) W')

end Go.Proofs.Ytkoknogefmfmnaa

/-
  CONTRACT of End (the program's).
-/
namespace Go.Proofs.Ytkoknogefmfmnaa
open Go.RowKit Go.Shelf
attribute [local go_sem] Oper.semAt_some

/-- What End leaves in the results' two cells. -/
def EndIs (W : World) (B : Nat) (l : List UInt8) (v : Value) (is : Bool) : Prop := (is = true ∧ ∃ e, endF l = some e ∧ OwnB W B v e) ∨ (is = false ∧ endF l = none ∧ v = .slice none 0 0)
/-- What End answers. -/
def EndEnd (W : World) (l : List UInt8) (e : Ending) (w' : World) : Prop := ∃ v is, e = .returned (.tuple #[v, .bool is]) ∧ EndIs w' W.heap.size l v is ∧ Below W.heap.size W w'
theorem endEnd_mk {W w' : World} {l : List UInt8} {v : Value} {is : Bool} (h : EndIs w' W.heap.size l v is) (hb : Below W.heap.size W w') : EndEnd W l (.returned (.tuple #[v, .bool is])) w' := ⟨v, is, rfl, h, hb⟩

/-- all that was handed on so far are bytes 255 -/
def All255 {l : List UInt8} (pre : List (Pl l)) : Prop := ∀ x ∈ pre, x.c = 255
theorem backFrom_all (l : List UInt8) : ∀ j, j ≤ l.length → All255 (backFrom l j) → ∀ c ∈ l.take j, c = 255
  | 0, _, _ => by simp
  | j + 1, hj, h => fun c hc => by
    rw [backFrom_step l j (by omega)] at h
    rw [List.take_succ_eq_append_getElem (by omega), List.mem_append] at hc
    rcases hc with hc | hc
    · exact backFrom_all l j (by omega) (fun x hx => h x (by simp [hx])) c hc
    · have : c = l[j] := by simpa using hc
      rw [this]; exact h ⟨j, l[j], List.getElem?_eq_getElem (by omega)⟩ (by simp)
theorem back_none {l : List UInt8} (h : All255 (backL l)) : endF l = none := by
  refine endF_all l fun c hc => ?_
  have := backFrom_all l l.length (Nat.le_refl _) h c
  rw [List.take_length] at this
  exact this hc
/-- where a prefix of what is handed on ends -/
theorem back_pre (l : List UInt8) : ∀ (j : Nat) (pre : List (Pl l)) (x : Pl l), j ≤ l.length → pre ++ [x] <+: backFrom l j → All255 pre → (∀ d ∈ l.drop j, d = 255) → ∀ d ∈ l.drop (x.i + 1), d = 255
  | 0, pre, x, _, h, _, _ => by
    have := h.length_le
    simp [backFrom] at this
  | j + 1, pre, x, hj, h, ha, hd => by
    rw [backFrom_step l j (by omega)] at h
    have hdr : l.drop j = l[j] :: l.drop (j + 1) := List.drop_eq_getElem_cons (by omega)
    cases pre with
    | nil =>
      rw [List.nil_append, List.cons_prefix_cons] at h
      obtain ⟨rfl, _⟩ := h
      exact hd
    | cons y pre =>
      rw [List.cons_append, List.cons_prefix_cons] at h
      obtain ⟨hx, h⟩ := h
      have hx2 : l[j] = 255 := by have := ha y (by simp); rw [hx] at this; exact this
      refine back_pre l j pre x (by omega) h (fun y hy => ha y (by simp [hy])) fun d hdm => ?_
      rw [hdr] at hdm
      rcases List.mem_cons.1 hdm with e | e
      · rw [e, hx2]
      · exact hd d e
theorem pl_lt {l : List UInt8} (x : Pl l) : x.i < l.length := (List.getElem?_eq_some_iff.1 x.at_).1
theorem back_at {l : List UInt8} {pre : List (Pl l)} {x : Pl l} (h : pre ++ [x] <+: backL l) (ha : All255 pre) (hc : x.c ≠ 255) : endF l = some (l.take x.i ++ [x.c + 1]) := by
  have h3 := back_pre l l.length pre x (Nat.le_refl _) h ha (by simp)
  obtain ⟨h1, h4⟩ := List.getElem?_eq_some_iff.1 x.at_
  have h5 : l = l.take x.i ++ x.c :: l.drop (x.i + 1) := by
    rw [← h4, ← List.drop_eq_getElem_cons h1, List.take_append_drop]
  conv => lhs; rw [h5]
  exact endF_at _ _ _ h3 hc

theorem OwnB.kept {W W' : World} {B : Nat} {v : Value} {l : List UInt8} {row : Option Nat} (h : OwnB W B v l) (hg : W.grownBy W' row) (hr : ∀ r, row = some r → ∃ o : Obj, W.heap[r]? = some o ∧ o.isCells = false) : OwnB W' B v l := by
  refine World.ownsRow.kept (row := row) h hg ?_
  rcases h.2 with ⟨rfl, _⟩ | ⟨g, cap, cur, rfl, _, hgb, _⟩
  · exact .inl rfl
  · refine .inr fun e => ?_
    obtain ⟨_, ho, hc⟩ := hr g (by rw [← e]; rfl)
    rw [hgb] at ho
    cases ho
    simp [Obj.isCells] at hc
theorem OwnB.other {W : World} {B b : Nat} {t : TypeId} {u v : Value} {l : List UInt8} (h : OwnB W B v l) (hb : Boxed W b t u) (ht : t ≠ 5) (u' : Value) : OwnB (W.setCell ⟨b, 0, none⟩ u') B v l := by
  refine World.ownsRow.kept (row := some b) h (grownBy_setCell' W b u') ?_
  have h1 := hb.not_row ht h
  cases hv : v.ownBlock with
  | none => exact .inl rfl
  | some g => exact .inr (fun e => h1 (by rw [hv, e]))
theorem set_last {l : List UInt8} {i : Nat} {c : UInt8} (h : l[i]? = some c) (hc : c ≠ 255) : (cellsL (l.take (i + 1))).set i (.int .u8 ((c.toNat : Int) + 1)) = cellsL (l.take i ++ [c + 1]) := by
  obtain ⟨hi, h4⟩ := List.getElem?_eq_some_iff.1 h
  have hs : (c + 1).toNat = c.toNat + 1 := by
    have h1 := c.toNat_lt
    have : c.toNat ≠ 255 := fun e => hc (UInt8.toNat_inj.1 e)
    rw [UInt8.toNat_add]; show (c.toNat + 1) % 256 = _; omega
  have hl : (l.take i).length = i := by rw [List.length_take]; omega
  rw [List.take_succ_eq_append_getElem hi, h4, cellsL_app, cellsL_app, List.set_append, if_neg (by rw [cellsL_len]; omega)]
  congr 1
  rw [cellsL_len, hl, Nat.sub_self]
  show [Value.int .u8 ((c.toNat : Int) + 1)] = [Value.int .u8 ((c + 1).toNat : Int)]
  rw [hs]; rfl
theorem boxed_below {W W' : World} {b B : Nat} {t : TypeId} {u : Value} (h : Boxed W b t u) (hb : Below B W W') (hB : b < B) : Boxed W' b t u := (hb.block b hB).trans h
theorem boxed_far {W : World} {b : Nat} {t : TypeId} {u : Value} (h : Boxed W b t u) {p : Addr} (hp : b ≠ p.block) (x : Value) : Boxed (W.setCell p x) b t u := (Below.heap_setCell W p x b hp).trans h
theorem keepsFrom_set {W : World} {B : Nat} {p : Addr} {cs : Array Value} {t : TypeId} {fr : Nat × Nat} (h : W.heap[p.block]? = some (.cells cs t fr)) (u : Value) : KeepsFrom B W (W.setCell p u) :=
  ⟨by simp [World.setCell], fun k _ _ hk ho => by
    by_cases e : k = p.block
    · subst e; rw [h] at hk; cases hk; simp [Obj.isCells] at ho
    · exact (Below.heap_setCell W p u k e).trans hk⟩
theorem keepsFrom_below {W W' : World} {B : Nat} (h : Below W.heap.size W W') : KeepsFrom B W W' :=
  ⟨h.size, fun k _ _ hk _ => (h.block k (Array.getElem?_eq_some_iff.1 hk).1).trans hk⟩

theorem results_cells2 {fn : Func} {p q : Tmp} {ty ty' : TypeId} (h : fn.results = #[.cell p ty, .cell q ty']) (tmps : Array Value) (P : Program) (w : World) :
    (results fn tmps).run P w =
      ((asAddr (tmps.getD p undef)).run P w).andThen fun a w₁ => ((loadVar ty a).run P w₁).andThen fun v w₂ => ((asAddr (tmps.getD q undef)).run P w₂).andThen fun b w₃ => ((loadVar ty' b).run P w₃).andThen fun u w₄ => .ok (.tuple #[v, u]) w₄ := by
  simp only [results, h]
  simp [Sem.run_bind, Result.andThen]

/-- What holds between two rounds. -/
def EMid (w : World) (A : Option Addr) (c : Nat) (l : List UInt8) (pre : List (Pl l)) (W : World) : Prop :=
  All255 pre ∧ Boxed W w.heap.size 39 (.slice A l.length c) ∧ Boxed W (w.heap.size + 1) 39 (.slice none 0 0) ∧ Boxed W (w.heap.size + 1 + 1) 4 (.bool false) ∧ Boxed W (w.heap.size + 1 + 1 + 1) 39 (.slice A l.length c) ∧ Below w.heap.size w W
/-- What holds where the loop is left. -/
def EOut (w : World) (l : List UInt8) (cd : Code) (pre : List (Pl l)) (W : World) : Prop :=
  cd = .ret ∧ ∃ (v : Value) (p : List (Pl l)) (x : Pl l), pre = p ++ [x] ∧ All255 p ∧ x.c ≠ 255 ∧ Boxed W (w.heap.size + 1) 39 v ∧ Boxed W (w.heap.size + 1 + 1) 4 (.bool true) ∧ OwnB W w.heap.size v (l.take x.i ++ [x.c + 1]) ∧ Below w.heap.size w W
theorem eMid_own (w : World) (A : Option Addr) (c : Nat) (l : List UInt8) : OwnFrom (w.heap.size + 1 + 1 + 1 + 1) (EMid w A c l) := fun pre X Y row ⟨hp, h1, h2, h3, h4, h5⟩ hg hr => by
  have hne : ∀ b, b < w.heap.size + 1 + 1 + 1 + 1 → some b ≠ row := fun b hb e => by have := (hr b e.symm).1; omega
  exact ⟨hp, h1.kept hg (hne _ (by omega)), h2.kept hg (hne _ (by omega)), h3.kept hg (hne _ (by omega)), h4.kept hg (hne _ (by omega)), h5.grown hg h5.size (fun j ej => by have := (hr j ej).1; omega)⟩
theorem eOut_own (w : World) (l : List UInt8) (cd : Code) : OwnFrom (w.heap.size + 1 + 1 + 1 + 1) (EOut w l cd) := fun pre X Y row ⟨hc, v, p, x, hp, ha, h255, h2, h3, ho, h5⟩ hg hr => by
  have hne : ∀ b, b < w.heap.size + 1 + 1 + 1 + 1 → some b ≠ row := fun b hb e => by have := (hr b e.symm).1; omega
  exact ⟨hc, v, p, x, hp, ha, h255, h2.kept hg (hne _ (by omega)), h3.kept hg (hne _ (by omega)), ho.kept hg (fun r e => (hr r e).2), h5.grown hg h5.size (fun j ej => by have := (hr j ej).1; omega)⟩

end Go.Proofs.Ytkoknogefmfmnaa

/-
  CONTRACTS: Bytes (how bytes stand, the document's); alive (the chapter's first examples).
-/
namespace Go.Proofs.Ytkoknogefmfmnaa
open Go.RowKit Go.Shelf

theorem below_dn {B : Nat} {a w : World} (h : Below B a w) (n : Nat) : Below B a (w.drewN n) := ⟨h.os, h.tape, h.output, h.size, h.block⟩
/-- how bytes stand from a place on -/
def ordFrom (a b : List UInt8) (k : Nat) : Int := ordL (a.drop k) (b.drop k)
theorem ordFrom_lt {a b : List UInt8} {k : Nat} (h : k < a.length) (h' : k < b.length) (hc : (a[k].toNat : Int) < b[k].toNat) : ordFrom a b k = -1 := by
  unfold ordFrom; rw [List.drop_eq_getElem_cons h, List.drop_eq_getElem_cons h', ordL_cons, if_pos (by omega)]
theorem ordFrom_gt {a b : List UInt8} {k : Nat} (h : k < a.length) (h' : k < b.length) (hc : (b[k].toNat : Int) < a[k].toNat) : ordFrom a b k = 1 := by
  unfold ordFrom; rw [List.drop_eq_getElem_cons h, List.drop_eq_getElem_cons h', ordL_cons, if_neg (by omega), if_pos (by omega)]
theorem ordFrom_eq {a b : List UInt8} {k : Nat} (h : k < a.length) (h' : k < b.length) (h1 : (a[k].toNat : Int) = b[k].toNat) : ordFrom a b k = ordFrom a b (k + 1) := by
  unfold ordFrom; rw [List.drop_eq_getElem_cons h, List.drop_eq_getElem_cons h', ordL_cons, if_neg (by omega), if_neg (by omega)]
theorem ordFrom_end {a b : List UInt8} {k : Nat} (h : k ≤ a.length) (h' : k ≤ b.length) (he : k = a.length ∨ k = b.length) :
    ordFrom a b k = if a.length < b.length then -1 else if b.length < a.length then 1 else 0 := by
  unfold ordFrom
  rcases he with rfl | rfl
  · rw [List.drop_length]
    by_cases h2 : a.length < b.length
    · rw [List.drop_eq_getElem_cons h2, if_pos h2]; rfl
    · rw [List.drop_of_length_le (by omega), if_neg h2, if_neg (by omega)]; rfl
  · rw [List.drop_length]
    by_cases h2 : b.length < a.length
    · rw [List.drop_eq_getElem_cons h2, if_neg (by omega), if_pos h2]; rfl
    · rw [List.drop_of_length_le (by omega), if_neg (by omega), if_neg h2]; rfl

theorem drew2 (w : World) (n k : Nat) : ∃ m, (w.drewN n).drewN k = w.drewN m := ⟨n + k, World.drewN_drewN w n k⟩
theorem drew3 (w : World) (n k i : Nat) : ∃ m, ((w.drewN n).drewN k).drewN i = w.drewN m := ⟨n + k + i, by rw [World.drewN_drewN, World.drewN_drewN, Nat.add_assoc]⟩

/-- eight cells of a new array, as a text -/
theorem num_string {W : World} {g : Nat} {l : List UInt8} (hl : l.length = 8) (h : W.heap[g]? = some (.cells (cellsL l).toArray 129 (0, 0))) : (convert 39 9 (.slice (some ⟨g, 0, none⟩) 8 8)).run Try.prog W = .ok (.string ⟨l.toArray⟩) W := by
  have h9 := run_convert_bytes_back (P := Try.prog) W 39 9 5 ⟨g, 0, none⟩ 8 l Try.underlying39 Try.underlying5 Try.underlying9 (fun j hj => by
    rw [add0]
    simp only [World.cell?, h]
    unfold cellsL
    simp [List.getElem?_eq_getElem hj])
  rwa [hl] at h9

end Go.Proofs.Ytkoknogefmfmnaa

/-
  CONTRACTS over parts: great; Key (the program's).
-/
namespace Go.Proofs.Ytkoknogefmfmnaa
open Go.RowKit Go.Shelf

/-- one part's cells -/
structure PartAt (W : World) (b o : Nat) (p : PartP) : Prop where
  c0 : W.cell? ⟨b, o, none⟩ = some (.bool p.v)
  c1 : W.cell? ⟨b, o + 1, none⟩ = some (.int .i64 p.n)
  c2 : W.cell? ⟨b, o + 2, none⟩ = some (.int .i64 p.k)
  c3 : W.cell? ⟨b, o + 2 + 1, none⟩ = some (.int .i64 p.m)
  c4 : W.cell? ⟨b, o + 2 + 2, none⟩ = some (.string p.s)
/-- a slice that reads as these parts, in blocks below B -/
def SlP (W : World) (B : Nat) (A : Option Addr) (l : List PartP) : Prop :=
  l ≠ [] → ∃ b o, A = some ⟨b, o, none⟩ ∧ b < B ∧ ∀ (j : Nat) (p : PartP), l[j]? = some p → PartAt W b (o + j * 5) p
theorem PartAt.next {W W' : World} {B b o : Nat} {p : PartP} (h : PartAt W b o p) (hb : Below B W W') (hB : b < B) : PartAt W' b o p :=
  ⟨(hb.cell (p := ⟨b, o, none⟩) hB).trans h.c0, (hb.cell (p := ⟨b, o + 1, none⟩) hB).trans h.c1, (hb.cell (p := ⟨b, o + 2, none⟩) hB).trans h.c2, (hb.cell (p := ⟨b, o + 2 + 1, none⟩) hB).trans h.c3, (hb.cell (p := ⟨b, o + 2 + 2, none⟩) hB).trans h.c4⟩
theorem SlP.next {W W' : World} {B : Nat} {A : Option Addr} {l : List PartP} (h : SlP W B A l) {B' : Nat} (hb : Below B' W W') (hB : B ≤ B') : SlP W' B A l := fun hl => by
  obtain ⟨b, o, e, hlt, hc⟩ := h hl
  exact ⟨b, o, e, hlt, fun j p hp => (hc j p hp).next hb (by omega)⟩
theorem SlP.more {W : World} {B B' : Nat} {A : Option Addr} {l : List PartP} (h : SlP W B A l) (hB : B ≤ B') : SlP W B' A l := fun hl => by
  obtain ⟨b, o, e, hlt, hc⟩ := h hl
  exact ⟨b, o, e, by omega, hc⟩
theorem SlP.drewN {W : World} {B : Nat} {A : Option Addr} {l : List PartP} (h : SlP W B A l) (n : Nat) : SlP (W.drewN n) B A l := fun hl => by
  obtain ⟨b, o, e, hlt, hc⟩ := h hl
  exact ⟨b, o, e, hlt, fun j p hp => ⟨(hc j p hp).c0, (hc j p hp).c1, (hc j p hp).c2, (hc j p hp).c3, (hc j p hp).c4⟩⟩
theorem SlP.at_ {W : World} {B : Nat} {A : Option Addr} {l : List PartP} (h : SlP W B A l) {j : Nat} (hj : j < l.length) : ∃ b o, A = some ⟨b, o, none⟩ ∧ b < B ∧ PartAt W b (o + j * 5) l[j] := by
  obtain ⟨b, o, e, hlt, hc⟩ := h (by intro e; rw [e] at hj; simp at hj)
  exact ⟨b, o, e, hlt, hc j _ (List.getElem?_eq_getElem hj)⟩

/-- what statements count of parts -/
def costP (l : List PartP) : Nat := (l.map fun p => 10 + p.s.size).sum
theorem costP_take {l : List PartP} {j : Nat} (h : j < l.length) : costP (l.take (j + 1)) = costP (l.take j) + (10 + l[j].s.size) := by
  unfold costP
  rw [List.take_succ_eq_append_getElem h, List.map_append, List.sum_append]
  simp
theorem costP_le (l : List PartP) (hs : ∀ p ∈ l, p.s.size ≤ 1048576) : costP l ≤ l.length * 1048586 := by
  induction l with
  | nil => simp [costP]
  | cons p r ih =>
    have h1 := ih (fun q hq => hs q (by simp [hq]))
    have h2 := hs p (by simp)
    unfold costP at h1 ⊢
    simp only [List.map_cons, List.sum_cons, List.length_cons]
    omega

end Go.Proofs.Ytkoknogefmfmnaa

/-
  CONTRACT of Key (the program's).
-/
namespace Go.Proofs.Ytkoknogefmfmnaa
open Go.RowKit Go.Shelf

theorem data_len (s : ByteArray) : s.data.toList.length = s.size := Array.length_toList
theorem partB_len (p : PartP) : (partB p).length ≤ 2 * (10 + p.s.size) := by
  unfold partB valB tailB
  have h1 := strB_len p.s.data.toList
  rw [data_len] at h1
  split
  · split
    · simp; omega
    · split
      · rw [List.length_cons, numB_len]; omega
      · rw [List.length_cons]; omega
  · rw [numB_len]; omega
theorem keyB_len (l : List PartP) : (keyB l).length ≤ 2 * costP l := by
  induction l with
  | nil => simp [keyB, costP]
  | cons p r ih =>
    have h := partB_len p
    unfold keyB costP at ih ⊢
    rw [List.flatMap_cons, List.length_append, List.map_cons, List.sum_cons]
    omega
theorem keyB_take {l : List PartP} {j : Nat} (h : j < l.length) : keyB (l.take (j + 1)) = keyB (l.take j) ++ partB l[j] := by
  unfold keyB
  rw [List.take_succ_eq_append_getElem h, List.flatMap_append]
  simp
theorem costP_mono (l : List PartP) (j : Nat) : costP (l.take j) ≤ costP l := by
  have h : costP l = costP (l.take j) + costP (l.drop j) := by
    unfold costP
    rw [← List.sum_append, ← List.map_append, List.take_append_drop]
  omega
theorem costP_mem {l : List PartP} {p : PartP} (h : p ∈ l) : 10 + p.s.size ≤ costP l := by
  induction l with
  | nil => cases h
  | cons q r ih =>
    unfold costP at ih ⊢
    rw [List.map_cons, List.sum_cons]
    rcases List.mem_cons.1 h with rfl | h
    · omega
    · have := ih h; omega
theorem costP_len (l : List PartP) : l.length * 10 ≤ costP l := by
  induction l with
  | nil => simp [costP]
  | cons q r ih =>
    unfold costP at ih ⊢
    rw [List.map_cons, List.sum_cons, List.length_cons]
    omega
theorem all_take {l : List PartP} {j : Nat} (h : j < l.length) : (l.take (j + 1)).all partMay = ((l.take j).all partMay && partMay l[j]) := by
  rw [List.take_succ_eq_append_getElem h, List.all_append]; simp
theorem all_no {l : List PartP} {j : Nat} (h : j < l.length) (hn : partMay l[j] = false) : l.all partMay = false := by
  rw [List.all_eq_false]
  exact ⟨l[j], List.getElem_mem h, by rw [hn]; simp⟩

/-- What Key answers. -/
def KeyEnd (W : World) (l : List PartP) (e : Ending) (w' : World) : Prop :=
  (l.all partMay = true ∧ (∃ v, e = .returned (.tuple #[v, .int .i64 0]) ∧ OwnB w' W.heap.size v (keyB l)) ∧ Below W.heap.size W w') ∨
  (l.all partMay = false ∧ e = .returned (.tuple #[.slice none 0 0, .int .i64 10]) ∧ Below W.heap.size W w')
theorem keyEnd_yes {W w' : World} {l : List PartP} {v : Value} (hm : l.all partMay = true) (ho : OwnB w' W.heap.size v (keyB l)) (hb : Below W.heap.size W w') : KeyEnd W l (.returned (.tuple #[v, .int .i64 0])) w' := .inl ⟨hm, ⟨v, rfl, ho⟩, hb⟩
theorem keyEnd_no {W w' : World} {l : List PartP} (hm : l.all partMay = false) (hb : Below W.heap.size W w') : KeyEnd W l (.returned (.tuple #[.slice none 0 0, .int .i64 10])) w' := .inr ⟨hm, rfl, hb⟩

/-- a part's own block -/
def PartBox (W : World) (b : Nat) (p : PartP) : Prop := W.heap[b]? = some (.cells #[.bool p.v, .int .i64 p.n, .int .i64 p.k, .int .i64 p.m, .string p.s] 45 (0, 0))
theorem PartBox.cell {W : World} {b : Nat} {p : PartP} (h : PartBox W b p) (j : Nat) : W.cell? ⟨b, j, none⟩ = (#[Value.bool p.v, .int .i64 p.n, .int .i64 p.k, .int .i64 p.m, .string p.s])[j]? := by unfold PartBox at h; simp [World.cell?, h]
theorem partBox_new (W : World) (p : PartP) : PartBox (W.alloc (.cells #[.bool p.v, .int .i64 p.n, .int .i64 p.k, .int .i64 p.m, .string p.s] 45)) W.heap.size p := heap_alloc_new W _
theorem PartBox.next {W W' : World} {b B : Nat} {p : PartP} (h : PartBox W b p) (hb : Below B W W') (hB : b < B) : PartBox W' b p := (hb.block b hB).trans h

set_option maxRecDepth 100000 in
set_option maxHeartbeats 4000000 in
theorem key_big (A : Option Addr) (c : Nat) (l : List PartP) (W : World) (hs : SlP W W.heap.size A l) (hl : costP l ≤ 7000) (hok : ∀ p ∈ l, partOk p) :
    Calls Try.prog 41 #[.slice A l.length c] W (KeyEnd W l) := by
  have HOK := Lib.hid hok
  have hll := costP_len l
  have HLL := Lib.hid hll
  have HC := Lib.hid hl
  have hl500 : l.length ≤ 700 := by omega
  clear hok hll hl
  go_enter Try.func41, Try.ntmps41
  go_wp2
  go_loopg [4, 6, 9] l.length (fun g x u y wr => ∃ (j : Nat) (v : Value), x = v ∧ y = .int .i64 j ∧ j + g = l.length ∧ Hid (OwnB wr W.heap.size v (keyB (l.take j))) ∧ Hid (Below W.heap.size W wr) ∧ W.heap.size ≤ wr.heap.size ∧ Hid ((l.take j).all partMay = true))
  case atStart => exact ⟨0, _, rfl, rfl, by omega, ownB_nil _ _, Below.refl _ _, Nat.le_refl _, rfl⟩
  case round =>
    obtain ⟨j, v, rfl, rfl, hj, HO, HB, hsz, HM⟩ := hrel
    cases gk with
    | zero =>
      have hjz : ¬ ((j : Int) < (l.length : Int)) := by omega
      have ht : l.take j = l := List.take_of_length_le (by omega)
      rw [ht] at HO HM
      clear ht
      go_wp2
      go_ret2
      exact keyEnd_yes HM.out HO.out HB.out
    | succ g =>
      have hjz : (j : Int) < (l.length : Int) := by omega
      have hjn : j < l.length := by omega
      have hpk := HOK.out _ (List.getElem_mem hjn)
      have hcm := costP_mem (List.getElem_mem hjn)
      have hkl : (keyB (l.take j)).length ≤ 14000 := by
        have h1 := keyB_len (l.take j)
        have h2 := costP_mono l j
        have h3 := HC.out
        omega
      have hps : l[j].s.size ≤ 7000 := by have := HC.out; omega
      have HKT := Lib.hid (keyB_take hjn)
      have HAT := Lib.hid (all_take hjn)
      have HAN := Lib.hid (fun h => all_no hjn h)
      obtain ⟨b, o, rfl, hblt, hp⟩ := (hs.next HB.out (Nat.le_refl _)).at_ hjn
      obtain ⟨p, hpe⟩ : ∃ p, l[j] = p := ⟨_, rfl⟩
      rw [hpe] at hp hpk hps HKT HAT HAN
      have h0 := hp.c0
      have h1 := hp.c1
      have h2 := hp.c2
      have h3 := hp.c3
      have h4 := hp.c4
      have HPK := Lib.hid hpk
      clear hp hpk hcm hpe
      cases hv : p.v
      · rw [hv] at h0
        have HPB : Hid (partB p = numB p.n) := by show _ = _; unfold partB; rw [hv]; rfl
        have HPM : Hid (partMay p = true) := by show _ = _; unfold partMay; rw [hv]; rfl
        go_wp2_with fail
        refine (appendNumber_any W.heap.size _ _ p.n _ (HO.out.alloc _) (by omega) (by simp; omega) HPK.out.1.1 HPK.out.1.2).mono ?_
        rintro e w1 ⟨v1, rfl, ho1, hb1⟩
        have HO1 := Lib.hid ho1
        have HB1 := Lib.hid ((HB.out.alloc hsz _).trans hb1)
        clear ho1 hb1 h0 h1 h2 h3 h4
        go_wp2
        go_roundg g
        case measure => omega
        case rel => exact ⟨j + 1, v1, rfl, by go_num, by omega, (by show OwnB _ _ _ _; rw [HKT.out, HPB.out]; exact HO1.out), HB1.out, HB1.out.size, (by show _ = _; rw [HAT.out, HM.out, HPM.out]; rfl)⟩
      · rw [hv] at h0
        have HPB : Hid (partB p = valB p.k p.m p.s) := by show _ = _; unfold partB; rw [hv]; rfl
        have HPM : Hid (partMay p = mayB p.k p.m p.s) := by show _ = _; unfold partMay; rw [hv]; rfl
        have HX := Lib.hid (partBox_new wr p)
        have hsx : p.s.size ≤ maxLen := by unfold maxLen; omega
        cases hm : mayB p.k p.m p.s
        · have HMB := Lib.hid hm
          clear hm
          go_wp2_with fail
          refine (check_no _ hsx HMB.out).mono ?_
          rintro e w1 ⟨rfl, hb1⟩
          have HB1 := Lib.hid ((HB.out.alloc hsz (.cells #[.bool true, .int .i64 p.n, .int .i64 p.k, .int .i64 p.m, .string p.s] 45)).trans (hb1.mono (by simp; omega)))
          clear hb1 h0 h1 h2 h3 h4
          go_wp2
          go_ret2
          exact keyEnd_no (HAN.out (by rw [HPM.out, HMB.out])) HB1.out
        · have HMB := Lib.hid hm
          clear hm
          go_wp2_with fail
          refine (check_yes _ hsx HMB.out).mono ?_
          rintro e w1 ⟨rfl, hb1⟩
          have hx1 := HX.out
          unfold PartBox at hx1
          rw [hv] at hx1
          have HX1 : Hid (w1.heap[wr.heap.size]? = some (.cells #[.bool true, .int .i64 p.n, .int .i64 p.k, .int .i64 p.m, .string p.s] 45 (0, 0))) := (hb1.block wr.heap.size (by simp)).trans hx1
          have g2 : w1.cell? ⟨wr.heap.size, 2, none⟩ = some (.int .i64 p.k) := by simp [World.cell?, HX1.out]
          have g3 : w1.cell? ⟨wr.heap.size, 3, none⟩ = some (.int .i64 p.m) := by simp [World.cell?, HX1.out]
          have g4 : w1.cell? ⟨wr.heap.size, 4, none⟩ = some (.string p.s) := by simp [World.cell?, HX1.out]
          have HO1 := Lib.hid ((HO.out.alloc (.cells #[.bool true, .int .i64 p.n, .int .i64 p.k, .int .i64 p.m, .string p.s] 45)).next hb1)
          have HB1 := Lib.hid ((HB.out.alloc hsz (.cells #[.bool true, .int .i64 p.n, .int .i64 p.k, .int .i64 p.m, .string p.s] 45)).trans (hb1.mono (by simp; omega)))
          clear hb1 h0 h1 h2 h3 h4 hx1
          go_wp2_with fail
          refine (appendValue_any W.heap.size _ _ p.k p.m p.s _ HO1.out (by omega) HB1.out.size (by have := mayB_size HMB.out; omega) HPK.out.2.1 HPK.out.2.2 HMB.out).mono ?_
          rintro e w2 ⟨v2, rfl, ho2, hb2⟩
          have HO2 := Lib.hid ho2
          have HB2 := Lib.hid (HB1.out.trans hb2)
          clear ho2 hb2 g2 g3 g4
          go_wp2
          go_roundg g
          case measure => omega
          case rel => exact ⟨j + 1, v2, rfl, by go_num, by omega, (by show OwnB _ _ _ _; rw [HKT.out, HPB.out]; exact HO2.out), HB2.out, HB2.out.size, (by show _ = _; rw [HAT.out, HM.out, HPM.out, HMB.out]; rfl)⟩

theorem key_any (A : Option Addr) (c : Nat) (l : List PartP) (W : World) (hs : SlP W W.heap.size A l) (hl : costP l ≤ 5000) (hok : ∀ p ∈ l, partOk p) :
    Calls Try.prog 41 #[.slice A l.length c] W (KeyEnd W l) := key_big A c l W hs (by omega) hok
end Go.Proofs.Ytkoknogefmfmnaa
