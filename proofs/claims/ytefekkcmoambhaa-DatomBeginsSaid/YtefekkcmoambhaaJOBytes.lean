import Derived.Test.YtefekkcmoambhaaJOVal
import Derived.RangeFuncNested
import Derived.RangeFuncBound
import Derived.RangeFuncCalls
import Derived.RangeFuncLeaves
import Derived.RangeFuncBox
import Derived.Shelf.Abstract
import Derived.Shelf.RegionOpen
import Derived.OwnWalkIn
import Derived.TacticsInMore
import Derived.LoopNIn
import Derived.LoopIn
import Derived.Test.YtefekkcmoambhaaRows
import Derived.ProofKit
import Derived.OpenShut
import Derived.ShutString
import Derived.ChangeOld
import Derived.ChangeSlices
import Derived.Carry
import Derived.Lib.SmallJoins
import Derived.Deep.QuietTactic
import Derived.BigQuiet
import Derived.Deep.Draws
/-
  CONTRACTS: Number, Value, Key (the program's).
-/
namespace Go.Proofs.Ytefekkcmoambhaa
open Go.RowKit

def checkN (k n : Int) (s : ByteArray) : Int := if mayB k n s = true then 0 else 10
theorem ck_no {k n : Int} {s : ByteArray} (h : (!mayB k n s) = true) : 10 = checkN k n s := by
  have : mayB k n s = false := by simpa using h
  unfold checkN; rw [this]; rfl
theorem ck_yes {k n : Int} {s : ByteArray} (h : (!mayB k n s) = false) : 0 = checkN k n s := by
  have : mayB k n s = true := by simpa using h
  unfold checkN; rw [this]; rfl
set_option maxHeartbeats 400000 in
theorem check_any (k n : Int) (s : ByteArray) (w : World) (hs : s.size ≤ maxLen) :
    Calls Try.prog 105 #[.agg #[.int .i64 k, .int .i64 n, .string s]] w fun e w' => e = .returned (.int .i64 (checkN k n s)) ∧ Below w.heap.size w w' := by
  go_enter Try.func105, Try.ntmps105
  go_wp2_with (go_at_call 134; refine (mayBe_any _ _ _ _ (by assumption)).mono ?_; rintro e w' ⟨rfl, hb⟩)
  all_goals go_ret
  all_goals refine ⟨ret_i64 ?_, ((Below.refl _ _).alloc (Nat.le_refl _) _).trans (hb.mono (by simp))⟩
  · exact ck_no ‹_›
  · exact ck_yes ‹_›
theorem check_yes {k n : Int} {s : ByteArray} (w : World) (hs : s.size ≤ maxLen) (hm : mayB k n s = true) :
    Calls Try.prog 105 #[.agg #[.int .i64 k, .int .i64 n, .string s]] w fun e w' => e = .returned (.int .i64 0) ∧ Below w.heap.size w w' :=
  (check_any k n s w hs).mono fun e w' ⟨h, hb⟩ => ⟨by rw [h]; unfold checkN; rw [if_pos hm], hb⟩
theorem check_no {k n : Int} {s : ByteArray} (w : World) (hs : s.size ≤ maxLen) (hm : mayB k n s = false) :
    Calls Try.prog 105 #[.agg #[.int .i64 k, .int .i64 n, .string s]] w fun e w' => e = .returned (.int .i64 10) ∧ Below w.heap.size w w' :=
  (check_any k n s w hs).mono fun e w' ⟨h, hb⟩ => ⟨by rw [h]; unfold checkN; rw [hm]; rfl, hb⟩

/-- What Value answers. -/
def ValEnd (W : World) (k n : Int) (s : ByteArray) (e : Ending) (w' : World) : Prop :=
  (mayB k n s = true ∧ (∃ v', e = .returned (.tuple #[v', .int .i64 0]) ∧ OwnB w' W.heap.size v' (valB k n s)) ∧ Below W.heap.size W w') ∨
  (mayB k n s = false ∧ e = .returned (.tuple #[.slice none 0 0, .int .i64 10]) ∧ Below W.heap.size W w')
theorem valEnd_yes {W w' : World} {k n : Int} {s : ByteArray} {v' : Value} (hm : mayB k n s = true) (ho : OwnB w' W.heap.size v' (valB k n s)) (hb : Below W.heap.size W w') : ValEnd W k n s (.returned (.tuple #[v', .int .i64 0])) w' := .inl ⟨hm, ⟨v', rfl, ho⟩, hb⟩
theorem valEnd_no {W w' : World} {k n : Int} {s : ByteArray} (hm : mayB k n s = false) (hb : Below W.heap.size W w') : ValEnd W k n s (.returned (.tuple #[.slice none 0 0, .int .i64 10])) w' := .inr ⟨hm, rfl, hb⟩

/-- What Number answers: eight cells of a new array. -/
def NumEnd (W : World) (n : Int) (e : Ending) (w' : World) : Prop := ∃ g, e = .returned (.slice (some ⟨g, 0, none⟩) 8 8) ∧ w'.heap[g]? = some (.cells (cellsL (numB n)).toArray 168 (0, 0)) ∧ W.heap.size ≤ g ∧ Below W.heap.size W w'
theorem numEnd_mk {W w' : World} {n : Int} {g : Nat} (h : w'.heap[g]? = some (.cells (cellsL (numB n)).toArray 168 (0, 0))) (hg : W.heap.size ≤ g) (hb : Below W.heap.size W w') : NumEnd W n (.returned (.slice (some ⟨g, 0, none⟩) 8 8)) w' := ⟨g, rfl, h, hg, hb⟩

end Go.Proofs.Ytefekkcmoambhaa

/-
  CONTRACTS: slices that came in; slices.Clone; slices.Backward, handed to a loop.
-/
namespace Go.Proofs.Ytefekkcmoambhaa
open Go.RowKit Go.Shelf
attribute [local go_sem] Oper.semAt_some

/-- a slice that reads as these bytes, in blocks below B -/
def SlB (W : World) (B : Nat) (A : Option Addr) (l : List UInt8) : Prop :=
  l ≠ [] → ∃ a, A = some a ∧ a.block < B ∧ ∀ (j : Nat) (x : UInt8), l[j]? = some x → W.cell? (a.add j) = some (.int .u8 x.toNat)
theorem add_block (a : Addr) (j : Nat) : (a.add j).block = a.block := by unfold Addr.add; split <;> rfl
theorem SlB.next {W W' : World} {B : Nat} {A : Option Addr} {l : List UInt8} (h : SlB W B A l) {B' : Nat} (hb : Below B' W W') (hB : B ≤ B') : SlB W' B A l := fun hl => by
  obtain ⟨a, e, hlt, hc⟩ := h hl
  exact ⟨a, e, hlt, fun j x hx => (hb.cell (p := a.add j) (by rw [add_block]; omega)).trans (hc j x hx)⟩
theorem SlB.take {W : World} {B : Nat} {A : Option Addr} {l : List UInt8} (h : SlB W B A l) (n : Nat) : SlB W B A (l.take n) := fun hl => by
  have h0 : l ≠ [] := fun e => hl (by rw [e]; simp)
  obtain ⟨a, e, hlt, hc⟩ := h h0
  refine ⟨a, e, hlt, fun j x hx => hc j x ?_⟩
  rw [List.getElem?_take] at hx
  split at hx
  · exact hx
  · cases hx
theorem SlB.of_own {W : World} {B : Nat} {A : Option Addr} {n c : Nat} {l : List UInt8} (h : OwnB W B (.slice A n c) l) : n = l.length ∧ SlB W W.heap.size A l := by
  rcases h.2 with ⟨e, h0⟩ | ⟨g, cap, cur, e, _, hg, _⟩
  · injection e with _ e _
    exact ⟨by omega, fun hl => absurd (List.length_eq_zero_iff.1 h0) hl⟩
  · injection e with e1 e2 e3
    subst e1 e2 e3
    refine ⟨rfl, fun _ => ⟨_, rfl, (Array.getElem?_eq_some_iff.1 hg).1, fun j x hx => ?_⟩⟩
    rw [add0]
    have hr : W.ownsRow B 5 1 (.slice (some ⟨g, 0, none⟩) l.length c) l.length (cellsL l) := h
    have hj : j < l.length := (List.getElem?_eq_some_iff.1 hx).1
    rw [hr.cellAt j (by omega)]
    unfold cellsL
    rw [List.getElem?_map, hx]; rfl
theorem slB_string {W : World} {B : Nat} {A : Option Addr} {l : List UInt8} (h : SlB W B A l) (c : Nat) : (convert 43 9 (.slice A l.length c)).run Try.prog W = .ok (.string ⟨l.toArray⟩) W := by
  cases A with
  | none =>
    have h0 : l = [] := by
      by_cases hl : l = []
      · exact hl
      · obtain ⟨a, e, _⟩ := h hl
        cases e
    subst h0
    exact Lib.run_convert_nil_bytes W _ _ _ c Try.underlying43 Try.underlying5 Try.underlying9
  | some a =>
    refine run_convert_bytes_back W _ _ _ a c l Try.underlying43 Try.underlying5 Try.underlying9 (fun j hj => ?_)
    have hl : l ≠ [] := fun e => by rw [e] at hj; simp at hj
    obtain ⟨a', e, _, hc⟩ := h hl
    injection e with e
    subst e
    exact hc j _ (List.getElem?_eq_getElem hj)

/-- a place, and the byte that stands there -/
structure Pl (l : List UInt8) where
  i : Nat
  c : UInt8
  at_ : l[i]? = some c
/-- places and bytes, the last one first -/
def backFrom (l : List UInt8) : Nat → List (Pl l)
  | 0 => []
  | j + 1 => (if h : j < l.length then [⟨j, l[j], List.getElem?_eq_getElem h⟩] else []) ++ backFrom l j
def backL (l : List UInt8) : List (Pl l) := backFrom l l.length
theorem backFrom_step (l : List UInt8) (j : Nat) (h : j < l.length) : backFrom l (j + 1) = ⟨j, l[j], List.getElem?_eq_getElem h⟩ :: backFrom l j := by
  show (if h : j < l.length then [⟨j, l[j], List.getElem?_eq_getElem h⟩] else []) ++ backFrom l j = _
  rw [dif_pos h]; rfl

/-- What lay below n₀, and in block Bt, lies. -/
structure Keeps (n₀ Bt : Nat) (A B : World) : Prop where
  low : Below n₀ A B
  box : B.heap[Bt]? = A.heap[Bt]?
theorem Keeps.refl (n₀ Bt : Nat) (A : World) : Keeps n₀ Bt A A := ⟨Below.refl _ _, rfl⟩
theorem Keeps.trans {n₀ Bt : Nat} {A B C : World} (h : Keeps n₀ Bt A B) (k : Keeps n₀ Bt B C) : Keeps n₀ Bt A C := ⟨h.low.trans k.low, k.box.trans h.box⟩
theorem Keeps.cell {n₀ Bt : Nat} {A B : World} (h : Keeps n₀ Bt A B) (i : Nat) : B.cell? ⟨Bt, i, none⟩ = A.cell? ⟨Bt, i, none⟩ := World.cell?_of_block (w := A) (a := ⟨Bt, i, none⟩) h.box
theorem wide_deep (k : Nat) : Fence.wide.depth.isSome = true → 1 ≤ k := fun h => by cases h
theorem wide_room (k : Nat) : Fence.wide.room k := fun d h => by cases h
theorem RoundIn.anyDepth {m m' : Nat} {P : Program} {l : Nat} {f : FuncId} {tmps : Array Value} {assign body : Code} {w : World} {R : Ending → World → Prop}
    (h : RoundIn Fence.wide m P l f tmps assign body w R) : RoundIn Fence.wide m' P l f tmps assign body w R := ⟨h.1, fun c cs _ => h.2 c cs (wide_room _)⟩
theorem YieldAt.anyDepth {m : Nat} (m' : Nat) {P : Program} {l : Nat} {args : Array Value} {W : World} {R : Ending → World → Prop} (h : YieldAt Fence.wide m P l args W R) : YieldAt Fence.wide m' P l args W R := by
  obtain ⟨fn, tmps, assign, body, hy, hR⟩ := h
  exact ⟨fn, tmps, assign, body, hy, RoundIn.anyDepth hR⟩
theorem keeps_b {n₀ Bt : Nat} {w : World} (hn : n₀ ≤ w.heap.size) (hb : Bt < w.heap.size) (W : World) (l : Nat) (o o' : Obj) (hl : w.heap.size ≤ l) (h : W.heap[l]? = some o) (h1 : o.isCells = false) (h2 : o.isWalk = false) : Keeps n₀ Bt W (W.putObj l o') :=
  ⟨belowK_b hn W l o o' hl h h1 h2, (belowK_b (n₀ := w.heap.size) (Nat.le_refl _) W l o o' hl h h1 h2).block Bt hb⟩

/-- One round of the loop that is handed places and bytes. -/
def HandsB (t : List UInt8) (l n₀ Bt N : Nat) (J Jx : List (Pl t) → World → Prop) : Prop :=
  ∀ m pre (x : Pl t) W, J pre W → pre.length < N → YieldAt Fence.wide m Try.prog l #[.int .i64 (x.i : Int), .int .u8 x.c.toNat] W fun e W' =>
    (e = .returned (.bool true) ∧ J (pre ++ [x]) W' ∧ Keeps n₀ Bt W W') ∨ (e = .returned (.bool false) ∧ Jx (pre ++ [x]) W')

end Go.Proofs.Ytefekkcmoambhaa

/-
  ARGUMENTS: a slice of bytes that came in; that it reads behind the call as before.
-/
namespace Go.Proofs.Ytefekkcmoambhaa
open Go.ChangeShapes Go.WideShapes Go.ChangeAt Go.RowKit Go.Joins

theorem laidOut : laidOutB Try.prog = true := by kernel_rfl
theorem cells8 : Try.prog.cellsOf 5 = 1 := by kernel_rfl
theorem cell_lt {W : World} {a : Addr} {v : Value} (h : W.cell? a = some v) : a.block < W.heap.size := by
  unfold World.cell? at h
  cases hb : W.heap[a.block]? with
  | none => rw [hb] at h; cases h
  | some o => exact (Array.getElem?_eq_some_iff.1 hb).1
theorem okW8 {n : Int} (h : (Lit.int .u8 n).wf = true) : 0 ≤ n ∧ n < 256 := by
  have : IntKind.u8.min ≤ n ∧ n ≤ IntKind.u8.max := by simpa [Lit.wf] using h
  simp [IntKind.min, IntKind.max, IntKind.signed, IntKind.bits] at this
  omega

section
variable {H : Type} {enc : TypeId × Value → H}
set_option maxRecDepth 100000 in
theorem open_sl {W : World} {base : Nat} {v : Value} {d : DataW H} {p : List MemPlace} (hval : Value.okWide Try.prog W .any base 43 v) (h : DataW.Trod enc Try.prog W 0 (fun _ => true) true 43 v d p) :
    ∃ (A : Option Addr) (c : Nat) (l : List UInt8), v = .slice A l.length c ∧ SlB W W.heap.size A l ∧ l.length ≤ c ∧ c ≤ maxLen := by
  obtain ⟨a1, len, cap, rfl⟩ := okWide_slice Try.underlying43 hval
  obtain ⟨fuel, hf⟩ := h
  rcases open_ints Try.underlying43 Try.underlying5 cells8 hf with ⟨hcs, _⟩ | ⟨a, len', cap', zs, hcs, _, hl, hm, hz, _, hcell, hwz⟩
  · simp [Value.cells] at hcs
    obtain ⟨rfl, rfl, rfl⟩ := hcs
    exact ⟨none, 0, [], rfl, fun h => absurd rfl h, Nat.le_refl _, Nat.zero_le _⟩
  · simp [Value.cells] at hcs
    obtain ⟨rfl, rfl, rfl⟩ := hcs
    simp only [if_true] at hz
    have hlen : ((zs.take len).map fun n => UInt8.ofNat n.toNat).length = len := by simp; omega
    refine ⟨some a, cap, (zs.take len).map fun n => UInt8.ofNat n.toNat, by rw [hlen], fun hne => ⟨a, rfl, ?_, fun j x hx => ?_⟩, by rw [hlen]; exact hl, hm⟩
    · have h0 : 0 < len := by
        rcases Nat.eq_zero_or_pos len with e | e
        · exact absurd (List.length_eq_zero_iff.1 (by rw [hlen, e])) hne
        · exact e
      have := cell_lt (hcell 0 (by omega))
      rwa [add_block] at this
    · have hj : j < len := by have := (List.getElem?_eq_some_iff.1 hx).1; rwa [hlen] at this
      have hjz : j < zs.length := by omega
      rw [List.getElem?_map, List.getElem?_take, if_pos hj, List.getElem?_eq_getElem hjz] at hx
      have hx2 : UInt8.ofNat (zs[j]).toNat = x := by simpa using hx
      have hw := okW8 (hwz zs[j] (List.getElem_mem hjz))
      rw [hcell j hjz]
      have e : zs.getD j 0 = zs[j] := by rw [List.getD_eq_getElem?_getD, List.getElem?_eq_getElem hjz]; rfl
      rw [e, ← hx2, UInt8.toNat_ofNat']
      congr 2
      omega
theorem sl_after {W W' : World} {v : Value} {d : DataW H} {p : List MemPlace} (h : DataW.Trod enc Try.prog W 0 (fun _ => true) true 43 v d p) (hb : Below W.heap.size W W') (hlt : ∀ x ∈ p, x.block < W.heap.size) :
    DataW.Trod enc Try.prog W' 0 (fun b => decide (b < W.heap.size)) true 43 v d p := Below.trod laidOut (by kernel_rfl) (of_decide_eq_true (by kernel_rfl)) h hb hlt
end

end Go.Proofs.Ytefekkcmoambhaa

/-
  CONTRACT of End (the program's).
-/
namespace Go.Proofs.Ytefekkcmoambhaa
open Go.RowKit Go.Shelf
attribute [local go_sem] Oper.semAt_some

/-- What End leaves in the results' two cells. -/
def EndIs (W : World) (B : Nat) (l : List UInt8) (v : Value) (is : Bool) : Prop := (is = true ∧ ∃ e, endF l = some e ∧ OwnB W B v e) ∨ (is = false ∧ endF l = none ∧ v = .slice none 0 0)
/-- What End answers. -/
def EndEnd (W : World) (l : List UInt8) (e : Ending) (w' : World) : Prop := ∃ v is, e = .returned (.tuple #[v, .bool is]) ∧ EndIs w' W.heap.size l v is ∧ Below W.heap.size W w'
theorem endEnd_mk {W w' : World} {l : List UInt8} {v : Value} {is : Bool} (h : EndIs w' W.heap.size l v is) (hb : Below W.heap.size W w') : EndEnd W l (.returned (.tuple #[v, .bool is])) w' := ⟨v, is, rfl, h, hb⟩

/-- all that was handed on so far are bytes 255 -/
def All255 {l : List UInt8} (pre : List (Pl l)) : Prop := ∀ x ∈ pre, x.c = 255
theorem backFrom_all (l : List UInt8) : ∀ j, j ≤ l.length → All255 (backFrom l j) → ∀ c ∈ l.take j, c = 255
  | 0, _, _ => by simp
  | j + 1, hj, h => fun c hc => by
    rw [backFrom_step l j (by omega)] at h
    rw [List.take_succ_eq_append_getElem (by omega), List.mem_append] at hc
    rcases hc with hc | hc
    · exact backFrom_all l j (by omega) (fun x hx => h x (by simp [hx])) c hc
    · have : c = l[j] := by simpa using hc
      rw [this]; exact h ⟨j, l[j], List.getElem?_eq_getElem (by omega)⟩ (by simp)
theorem back_none {l : List UInt8} (h : All255 (backL l)) : endF l = none := by
  refine endF_all l fun c hc => ?_
  have := backFrom_all l l.length (Nat.le_refl _) h c
  rw [List.take_length] at this
  exact this hc
/-- where a prefix of what is handed on ends -/
theorem back_pre (l : List UInt8) : ∀ (j : Nat) (pre : List (Pl l)) (x : Pl l), j ≤ l.length → pre ++ [x] <+: backFrom l j → All255 pre → (∀ d ∈ l.drop j, d = 255) → ∀ d ∈ l.drop (x.i + 1), d = 255
  | 0, pre, x, _, h, _, _ => by
    have := h.length_le
    simp [backFrom] at this
  | j + 1, pre, x, hj, h, ha, hd => by
    rw [backFrom_step l j (by omega)] at h
    have hdr : l.drop j = l[j] :: l.drop (j + 1) := List.drop_eq_getElem_cons (by omega)
    cases pre with
    | nil =>
      rw [List.nil_append, List.cons_prefix_cons] at h
      obtain ⟨rfl, _⟩ := h
      exact hd
    | cons y pre =>
      rw [List.cons_append, List.cons_prefix_cons] at h
      obtain ⟨hx, h⟩ := h
      have hx2 : l[j] = 255 := by have := ha y (by simp); rw [hx] at this; exact this
      refine back_pre l j pre x (by omega) h (fun y hy => ha y (by simp [hy])) fun d hdm => ?_
      rw [hdr] at hdm
      rcases List.mem_cons.1 hdm with e | e
      · rw [e, hx2]
      · exact hd d e
theorem pl_lt {l : List UInt8} (x : Pl l) : x.i < l.length := (List.getElem?_eq_some_iff.1 x.at_).1
theorem back_at {l : List UInt8} {pre : List (Pl l)} {x : Pl l} (h : pre ++ [x] <+: backL l) (ha : All255 pre) (hc : x.c ≠ 255) : endF l = some (l.take x.i ++ [x.c + 1]) := by
  have h3 := back_pre l l.length pre x (Nat.le_refl _) h ha (by simp)
  obtain ⟨h1, h4⟩ := List.getElem?_eq_some_iff.1 x.at_
  have h5 : l = l.take x.i ++ x.c :: l.drop (x.i + 1) := by
    rw [← h4, ← List.drop_eq_getElem_cons h1, List.take_append_drop]
  conv => lhs; rw [h5]
  exact endF_at _ _ _ h3 hc

theorem OwnB.kept {W W' : World} {B : Nat} {v : Value} {l : List UInt8} {row : Option Nat} (h : OwnB W B v l) (hg : W.grownBy W' row) (hr : ∀ r, row = some r → ∃ o : Obj, W.heap[r]? = some o ∧ o.isCells = false) : OwnB W' B v l := by
  refine World.ownsRow.kept (row := row) h hg ?_
  rcases h.2 with ⟨rfl, _⟩ | ⟨g, cap, cur, rfl, _, hgb, _⟩
  · exact .inl rfl
  · refine .inr fun e => ?_
    obtain ⟨_, ho, hc⟩ := hr g (by rw [← e]; rfl)
    rw [hgb] at ho
    cases ho
    simp [Obj.isCells] at hc
theorem OwnB.other {W : World} {B b : Nat} {t : TypeId} {u v : Value} {l : List UInt8} (h : OwnB W B v l) (hb : Boxed W b t u) (ht : t ≠ 5) (u' : Value) : OwnB (W.setCell ⟨b, 0, none⟩ u') B v l := by
  refine World.ownsRow.kept (row := some b) h (grownBy_setCell' W b u') ?_
  have h1 := hb.not_row ht h
  cases hv : v.ownBlock with
  | none => exact .inl rfl
  | some g => exact .inr (fun e => h1 (by rw [hv, e]))
theorem set_last {l : List UInt8} {i : Nat} {c : UInt8} (h : l[i]? = some c) (hc : c ≠ 255) : (cellsL (l.take (i + 1))).set i (.int .u8 ((c.toNat : Int) + 1)) = cellsL (l.take i ++ [c + 1]) := by
  obtain ⟨hi, h4⟩ := List.getElem?_eq_some_iff.1 h
  have hs : (c + 1).toNat = c.toNat + 1 := by
    have h1 := c.toNat_lt
    have : c.toNat ≠ 255 := fun e => hc (UInt8.toNat_inj.1 e)
    rw [UInt8.toNat_add]; show (c.toNat + 1) % 256 = _; omega
  have hl : (l.take i).length = i := by rw [List.length_take]; omega
  rw [List.take_succ_eq_append_getElem hi, h4, cellsL_app, cellsL_app, List.set_append, if_neg (by rw [cellsL_len]; omega)]
  congr 1
  rw [cellsL_len, hl, Nat.sub_self]
  show [Value.int .u8 ((c.toNat : Int) + 1)] = [Value.int .u8 ((c + 1).toNat : Int)]
  rw [hs]; rfl
theorem boxed_below {W W' : World} {b B : Nat} {t : TypeId} {u : Value} (h : Boxed W b t u) (hb : Below B W W') (hB : b < B) : Boxed W' b t u := (hb.block b hB).trans h
theorem boxed_far {W : World} {b : Nat} {t : TypeId} {u : Value} (h : Boxed W b t u) {p : Addr} (hp : b ≠ p.block) (x : Value) : Boxed (W.setCell p x) b t u := (Below.heap_setCell W p x b hp).trans h
theorem keepsFrom_set {W : World} {B : Nat} {p : Addr} {cs : Array Value} {t : TypeId} {fr : Nat × Nat} (h : W.heap[p.block]? = some (.cells cs t fr)) (u : Value) : KeepsFrom B W (W.setCell p u) :=
  ⟨by simp [World.setCell], fun k _ _ hk ho => by
    by_cases e : k = p.block
    · subst e; rw [h] at hk; cases hk; simp [Obj.isCells] at ho
    · exact (Below.heap_setCell W p u k e).trans hk⟩
theorem keepsFrom_below {W W' : World} {B : Nat} (h : Below W.heap.size W W') : KeepsFrom B W W' :=
  ⟨h.size, fun k _ _ hk _ => (h.block k (Array.getElem?_eq_some_iff.1 hk).1).trans hk⟩

theorem results_cells2 {fn : Func} {p q : Tmp} {ty ty' : TypeId} (h : fn.results = #[.cell p ty, .cell q ty']) (tmps : Array Value) (P : Program) (w : World) :
    (results fn tmps).run P w =
      ((asAddr (tmps.getD p undef)).run P w).andThen fun a w₁ => ((loadVar ty a).run P w₁).andThen fun v w₂ => ((asAddr (tmps.getD q undef)).run P w₂).andThen fun b w₃ => ((loadVar ty' b).run P w₃).andThen fun u w₄ => .ok (.tuple #[v, u]) w₄ := by
  simp only [results, h]
  simp [Sem.run_bind, Result.andThen]

/-- What holds between two rounds. -/
def EMid (w : World) (A : Option Addr) (c : Nat) (l : List UInt8) (pre : List (Pl l)) (W : World) : Prop :=
  All255 pre ∧ Boxed W w.heap.size 43 (.slice A l.length c) ∧ Boxed W (w.heap.size + 1) 43 (.slice none 0 0) ∧ Boxed W (w.heap.size + 1 + 1) 4 (.bool false) ∧ Boxed W (w.heap.size + 1 + 1 + 1) 43 (.slice A l.length c) ∧ Below w.heap.size w W
/-- What holds where the loop is left. -/
def EOut (w : World) (l : List UInt8) (cd : Code) (pre : List (Pl l)) (W : World) : Prop :=
  cd = .ret ∧ ∃ (v : Value) (p : List (Pl l)) (x : Pl l), pre = p ++ [x] ∧ All255 p ∧ x.c ≠ 255 ∧ Boxed W (w.heap.size + 1) 43 v ∧ Boxed W (w.heap.size + 1 + 1) 4 (.bool true) ∧ OwnB W w.heap.size v (l.take x.i ++ [x.c + 1]) ∧ Below w.heap.size w W
theorem eMid_own (w : World) (A : Option Addr) (c : Nat) (l : List UInt8) : OwnFrom (w.heap.size + 1 + 1 + 1 + 1) (EMid w A c l) := fun pre X Y row ⟨hp, h1, h2, h3, h4, h5⟩ hg hr => by
  have hne : ∀ b, b < w.heap.size + 1 + 1 + 1 + 1 → some b ≠ row := fun b hb e => by have := (hr b e.symm).1; omega
  exact ⟨hp, h1.kept hg (hne _ (by omega)), h2.kept hg (hne _ (by omega)), h3.kept hg (hne _ (by omega)), h4.kept hg (hne _ (by omega)), h5.grown hg h5.size (fun j ej => by have := (hr j ej).1; omega)⟩
theorem eOut_own (w : World) (l : List UInt8) (cd : Code) : OwnFrom (w.heap.size + 1 + 1 + 1 + 1) (EOut w l cd) := fun pre X Y row ⟨hc, v, p, x, hp, ha, h255, h2, h3, ho, h5⟩ hg hr => by
  have hne : ∀ b, b < w.heap.size + 1 + 1 + 1 + 1 → some b ≠ row := fun b hb e => by have := (hr b e.symm).1; omega
  exact ⟨hc, v, p, x, hp, ha, h255, h2.kept hg (hne _ (by omega)), h3.kept hg (hne _ (by omega)), ho.kept hg (fun r e => (hr r e).2), h5.grown hg h5.size (fun j ej => by have := (hr j ej).1; omega)⟩

end Go.Proofs.Ytefekkcmoambhaa

/-
  CONTRACTS: Bytes (how bytes stand, the document's); alive (the chapter's first examples).
-/
namespace Go.Proofs.Ytefekkcmoambhaa
open Go.RowKit Go.Shelf

theorem below_dn {B : Nat} {a w : World} (h : Below B a w) (n : Nat) : Below B a (w.drewN n) := ⟨h.os, h.tape, h.output, h.size, h.block⟩
/-- how bytes stand from a place on -/
def ordFrom (a b : List UInt8) (k : Nat) : Int := ordL (a.drop k) (b.drop k)
theorem ordFrom_lt {a b : List UInt8} {k : Nat} (h : k < a.length) (h' : k < b.length) (hc : (a[k].toNat : Int) < b[k].toNat) : ordFrom a b k = -1 := by
  unfold ordFrom; rw [List.drop_eq_getElem_cons h, List.drop_eq_getElem_cons h', ordL_cons, if_pos (by omega)]
theorem ordFrom_gt {a b : List UInt8} {k : Nat} (h : k < a.length) (h' : k < b.length) (hc : (b[k].toNat : Int) < a[k].toNat) : ordFrom a b k = 1 := by
  unfold ordFrom; rw [List.drop_eq_getElem_cons h, List.drop_eq_getElem_cons h', ordL_cons, if_neg (by omega), if_pos (by omega)]
theorem ordFrom_eq {a b : List UInt8} {k : Nat} (h : k < a.length) (h' : k < b.length) (h1 : (a[k].toNat : Int) = b[k].toNat) : ordFrom a b k = ordFrom a b (k + 1) := by
  unfold ordFrom; rw [List.drop_eq_getElem_cons h, List.drop_eq_getElem_cons h', ordL_cons, if_neg (by omega), if_neg (by omega)]
theorem ordFrom_end {a b : List UInt8} {k : Nat} (h : k ≤ a.length) (h' : k ≤ b.length) (he : k = a.length ∨ k = b.length) :
    ordFrom a b k = if a.length < b.length then -1 else if b.length < a.length then 1 else 0 := by
  unfold ordFrom
  rcases he with rfl | rfl
  · rw [List.drop_length]
    by_cases h2 : a.length < b.length
    · rw [List.drop_eq_getElem_cons h2, if_pos h2]; rfl
    · rw [List.drop_of_length_le (by omega), if_neg h2, if_neg (by omega)]; rfl
  · rw [List.drop_length]
    by_cases h2 : b.length < a.length
    · rw [List.drop_eq_getElem_cons h2, if_neg (by omega), if_pos h2]; rfl
    · rw [List.drop_of_length_le (by omega), if_neg (by omega), if_neg h2]; rfl

theorem drew2 (w : World) (n k : Nat) : ∃ m, (w.drewN n).drewN k = w.drewN m := ⟨n + k, World.drewN_drewN w n k⟩
theorem drew3 (w : World) (n k i : Nat) : ∃ m, ((w.drewN n).drewN k).drewN i = w.drewN m := ⟨n + k + i, by rw [World.drewN_drewN, World.drewN_drewN, Nat.add_assoc]⟩

set_option maxRecDepth 100000 in
set_option maxHeartbeats 2000000 in
theorem bytes_any (A A' : Option Addr) (c c' : Nat) (a b : List UInt8) (w : World) (B : Nat) (hs : SlB w B A a) (hs' : SlB w B A' b) (hl : a.length ≤ 50000) (hl' : b.length ≤ 50000) :
    Calls Try.prog 46 #[.slice A a.length c, .slice A' b.length c'] w fun e w' => e = .returned (.int .i64 (ordL a b)) ∧ ∃ n, w' = w.drewN n := by
  go_enter Try.func46, Try.ntmps46
  go_wp2
  go_loopw [5] (fun i wr => ∃ j n : Nat, j ≤ a.length ∧ j ≤ b.length ∧ i = .int .i64 j ∧ Hid (ordFrom a b j = ordL a b) ∧ wr = w.drewN n) (fun i _ => a.length - (intOf i).toNat)
  case atStart => exact ⟨0, 0, by omega, by omega, rfl, rfl, rfl⟩
  case round =>
    obtain ⟨j, n, hj, hj', rfl, HJ, rfl⟩ := hrel
    by_cases h1 : j < a.length
    · by_cases h2 : j < b.length
      · have hne : a ≠ [] := by intro e; rw [e] at h1; simp at h1
        have hne' : b ≠ [] := by intro e; rw [e] at h2; simp at h2
        obtain ⟨p, ep, _, hc⟩ := hs hne
        obtain ⟨q, eq', _, hc'⟩ := hs' hne'
        subst ep eq'
        have hcj : w.cell? (p.add j) = some (.int .u8 a[j].toNat) := hc j _ (List.getElem?_eq_getElem h1)
        have hcj' : w.cell? (q.add j) = some (.int .u8 b[j].toNat) := hc' j _ (List.getElem?_eq_getElem h2)
        clear hc hc'
        by_cases h3 : (a[j].toNat : Int) < (b[j].toNat : Int)
        · have HF : Hid (ordFrom a b j = -1) := ordFrom_lt h1 h2 h3
          go_wp2
          go_quiet (fail)
          go_wp2
          go_ret
          exact ⟨ret_i64 (by rw [← HJ.out, HF.out]), by first | exact ⟨_, rfl⟩ | exact drew2 _ _ _ | exact drew3 _ _ _ _⟩
        · by_cases h4 : (b[j].toNat : Int) < (a[j].toNat : Int)
          · have HF : Hid (ordFrom a b j = 1) := ordFrom_gt h1 h2 h4
            go_wp2
            go_quiet (fail)
            go_wp2
            go_quiet (fail)
            go_wp2
            go_ret
            exact ⟨ret_i64 (by rw [← HJ.out, HF.out]), by first | exact ⟨_, rfl⟩ | exact drew2 _ _ _ | exact drew3 _ _ _ _⟩
          · have HF : Hid (ordFrom a b j = ordFrom a b (j + 1)) := ordFrom_eq h1 h2 (by omega)
            go_wp2
            go_quiet (fail)
            go_wp2
            go_quiet (fail)
            go_wp2
            go_roundw
            case rel => exact ⟨j + 1, _, by omega, by omega, by go_num, by rw [← HJ.out, HF.out]; rfl, (by first | rfl | exact World.drewN_drewN _ _ _ | exact (by rw [World.drewN_drewN, World.drewN_drewN]))⟩
            case measure => simp [intOf]; omega
      · have HF : Hid (ordFrom a b j = if a.length < b.length then -1 else if b.length < a.length then 1 else 0) := ordFrom_end hj hj' (.inr (by omega))
        have h5 : ¬ (a.length : Int) < (b.length : Int) := by omega
        have h6 : (b.length : Int) < (a.length : Int) := by omega
        go_wp2
        go_ret
        exact ⟨ret_i64 (by rw [← HJ.out, HF.out, if_neg (by omega), if_pos (by omega)]), ⟨_, rfl⟩⟩
    · have HF : Hid (ordFrom a b j = if a.length < b.length then -1 else if b.length < a.length then 1 else 0) := ordFrom_end hj hj' (.inl (by omega))
      by_cases h5 : (a.length : Int) < (b.length : Int)
      · go_wp2
        go_ret
        exact ⟨ret_i64 (by rw [← HJ.out, HF.out, if_pos (by omega)]), ⟨_, rfl⟩⟩
      · have h6 : ¬ (b.length : Int) < (a.length : Int) := by omega
        go_wp2
        go_ret
        exact ⟨ret_i64 (by rw [← HJ.out, HF.out, if_neg (by omega), if_neg (by omega)]), ⟨_, rfl⟩⟩

/-- eight cells of a new array, as a text -/
theorem num_string {W : World} {g : Nat} {l : List UInt8} (hl : l.length = 8) (h : W.heap[g]? = some (.cells (cellsL l).toArray 168 (0, 0))) : (convert 43 9 (.slice (some ⟨g, 0, none⟩) 8 8)).run Try.prog W = .ok (.string ⟨l.toArray⟩) W := by
  have h9 := run_convert_bytes_back (P := Try.prog) W 43 9 5 ⟨g, 0, none⟩ 8 l Try.underlying43 Try.underlying5 Try.underlying9 (fun j hj => by
    rw [add0]
    simp only [World.cell?, h]
    unfold cellsL
    simp [List.getElem?_eq_getElem hj])
  rwa [hl] at h9

end Go.Proofs.Ytefekkcmoambhaa
