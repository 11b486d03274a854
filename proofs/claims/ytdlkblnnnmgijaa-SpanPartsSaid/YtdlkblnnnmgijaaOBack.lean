/-
  CONTRACTS: slices that came in; slices.Clone; slices.Backward, handed to a loop.
-/
import Derived.Test.YtdlkblnnnmgijaaOKey
import Derived.RangeFuncNested
import Derived.RangeFuncBound
import Derived.RangeFuncCalls
import Derived.RangeFuncLeaves
import Derived.RangeFuncBox
import Derived.Shelf.Abstract
import Derived.Shelf.RegionOpen
import Derived.OwnWalkIn
import Derived.TacticsInMore
import Derived.LoopNIn
import Derived.LoopIn
namespace Go.Proofs.Ytdlkblnnnmgijaa
open Go.RowKit Go.Shelf
attribute [local go_sem] Oper.semAt_some

/-- a slice that reads as these bytes, in blocks below B -/
def SlB (W : World) (B : Nat) (A : Option Addr) (l : List UInt8) : Prop :=
  l ≠ [] → ∃ a, A = some a ∧ a.block < B ∧ ∀ (j : Nat) (x : UInt8), l[j]? = some x → W.cell? (a.add j) = some (.int .u8 x.toNat)
theorem add_block (a : Addr) (j : Nat) : (a.add j).block = a.block := by unfold Addr.add; split <;> rfl
theorem SlB.next {W W' : World} {B : Nat} {A : Option Addr} {l : List UInt8} (h : SlB W B A l) {B' : Nat} (hb : Below B' W W') (hB : B ≤ B') : SlB W' B A l := fun hl => by
  obtain ⟨a, e, hlt, hc⟩ := h hl
  exact ⟨a, e, hlt, fun j x hx => (hb.cell (p := a.add j) (by rw [add_block]; omega)).trans (hc j x hx)⟩
theorem SlB.take {W : World} {B : Nat} {A : Option Addr} {l : List UInt8} (h : SlB W B A l) (n : Nat) : SlB W B A (l.take n) := fun hl => by
  have h0 : l ≠ [] := fun e => hl (by rw [e]; simp)
  obtain ⟨a, e, hlt, hc⟩ := h h0
  refine ⟨a, e, hlt, fun j x hx => hc j x ?_⟩
  rw [List.getElem?_take] at hx
  split at hx
  · exact hx
  · cases hx
theorem SlB.of_own {W : World} {B : Nat} {A : Option Addr} {n c : Nat} {l : List UInt8} (h : OwnB W B (.slice A n c) l) : n = l.length ∧ SlB W W.heap.size A l := by
  rcases h.2 with ⟨e, h0⟩ | ⟨g, cap, cur, e, _, hg, _⟩
  · injection e with _ e _
    exact ⟨by omega, fun hl => absurd (List.length_eq_zero_iff.1 h0) hl⟩
  · injection e with e1 e2 e3
    subst e1 e2 e3
    refine ⟨rfl, fun _ => ⟨_, rfl, (Array.getElem?_eq_some_iff.1 hg).1, fun j x hx => ?_⟩⟩
    rw [add0]
    have hr : W.ownsRow B 5 1 (.slice (some ⟨g, 0, none⟩) l.length c) l.length (cellsL l) := h
    have hj : j < l.length := (List.getElem?_eq_some_iff.1 hx).1
    rw [hr.cellAt j (by omega)]
    unfold cellsL
    rw [List.getElem?_map, hx]; rfl
theorem slB_string {W : World} {B : Nat} {A : Option Addr} {l : List UInt8} (h : SlB W B A l) (c : Nat) : (convert 29 9 (.slice A l.length c)).run Try.prog W = .ok (.string ⟨l.toArray⟩) W := by
  cases A with
  | none =>
    have h0 : l = [] := by
      by_cases hl : l = []
      · exact hl
      · obtain ⟨a, e, _⟩ := h hl
        cases e
    subst h0
    exact Lib.run_convert_nil_bytes W _ _ _ c Try.underlying29 Try.underlying5 Try.underlying9
  | some a =>
    refine run_convert_bytes_back W _ _ _ a c l Try.underlying29 Try.underlying5 Try.underlying9 (fun j hj => ?_)
    have hl : l ≠ [] := fun e => by rw [e] at hj; simp at hj
    obtain ⟨a', e, _, hc⟩ := h hl
    injection e with e
    subst e
    exact hc j _ (List.getElem?_eq_getElem hj)

set_option maxRecDepth 100000 in
set_option maxHeartbeats 1000000 in
theorem clone_any (a : Addr) (c : Nat) (l : List UInt8) (W : World) (hs : SlB W W.heap.size (some a) l) (hl : l.length ≤ 20000) :
    Calls Try.prog 55 #[.slice (some a) l.length c] W (App W W.heap.size l) := by
  obtain ⟨i0, hi, hz0, hz1, hz2⟩ := info_parts info8
  have hmx : 50000 ≤ maxLen := by decide
  have hc : Hid (∀ (o : Obj) j u, (cellsL l)[j]? = some u → (W.alloc o).cell? (a.add j) = some u) := fun o j u hu => by
    obtain ⟨x, hx, rfl⟩ := cellsL_at hu
    have hne : l ≠ [] := fun e => by rw [e] at hx; cases hx
    obtain ⟨a', e, hlt, hcc⟩ := hs hne
    injection e with e
    subst e
    rw [World.cell?_alloc_lt _ _ _ (by rw [add_block]; exact hlt)]
    exact hcc j x hx
  have ho : Hid (OwnB (W.alloc (.cells #[] 5)) W.heap.size (.slice (some ⟨W.heap.size, 0, none⟩) 0 0) []) :=
    World.ownsRow_lit W #[] 0 (Nat.le_refl _) (by decide) rfl
  have hq := @Lib.run_eql_slice_nil
  clear hs
  go_enter Try.func55, Try.ntmps55
  go_wp2_with (at_builtin; refine wpList_append_own _ rfl _ _ 29 rfl W.heap.size 5 i0 (.int .u8 0) 1 1 Try.underlying29 hi hz0 hz1 hz2 rfl (by decide) _ _ _ rfl ho.out a l.length c (cellsL l) rfl (by rw [cellsL_len]; omega) (hc.out _) (cellsL_one _) (by simp; omega) (by simp; omega) (by simp) ?_; intro v' w3 hown' hgrow _)
  go_ret
  refine app_mk (by rw [← cellsL_app] at hown'; simpa using hown') (((Below.refl _ _).alloc (Nat.le_refl _) _).trans (below_own ho.out hgrow (by simp)))
/-- a place, and the byte that stands there -/
structure Pl (l : List UInt8) where
  i : Nat
  c : UInt8
  at_ : l[i]? = some c
/-- places and bytes, the last one first -/
def backFrom (l : List UInt8) : Nat → List (Pl l)
  | 0 => []
  | j + 1 => (if h : j < l.length then [⟨j, l[j], List.getElem?_eq_getElem h⟩] else []) ++ backFrom l j
def backL (l : List UInt8) : List (Pl l) := backFrom l l.length
theorem backFrom_step (l : List UInt8) (j : Nat) (h : j < l.length) : backFrom l (j + 1) = ⟨j, l[j], List.getElem?_eq_getElem h⟩ :: backFrom l j := by
  show (if h : j < l.length then [⟨j, l[j], List.getElem?_eq_getElem h⟩] else []) ++ backFrom l j = _
  rw [dif_pos h]; rfl

/-- What lay below n₀, and in block Bt, lies. -/
structure Keeps (n₀ Bt : Nat) (A B : World) : Prop where
  low : Below n₀ A B
  box : B.heap[Bt]? = A.heap[Bt]?
theorem Keeps.refl (n₀ Bt : Nat) (A : World) : Keeps n₀ Bt A A := ⟨Below.refl _ _, rfl⟩
theorem Keeps.trans {n₀ Bt : Nat} {A B C : World} (h : Keeps n₀ Bt A B) (k : Keeps n₀ Bt B C) : Keeps n₀ Bt A C := ⟨h.low.trans k.low, k.box.trans h.box⟩
theorem Keeps.cell {n₀ Bt : Nat} {A B : World} (h : Keeps n₀ Bt A B) (i : Nat) : B.cell? ⟨Bt, i, none⟩ = A.cell? ⟨Bt, i, none⟩ := World.cell?_of_block (w := A) (a := ⟨Bt, i, none⟩) h.box
theorem wide_deep (k : Nat) : Fence.wide.depth.isSome = true → 1 ≤ k := fun h => by cases h
theorem wide_room (k : Nat) : Fence.wide.room k := fun d h => by cases h
theorem RoundIn.anyDepth {m m' : Nat} {P : Program} {l : Nat} {f : FuncId} {tmps : Array Value} {assign body : Code} {w : World} {R : Ending → World → Prop}
    (h : RoundIn Fence.wide m P l f tmps assign body w R) : RoundIn Fence.wide m' P l f tmps assign body w R := ⟨h.1, fun c cs _ => h.2 c cs (wide_room _)⟩
theorem YieldAt.anyDepth {m : Nat} (m' : Nat) {P : Program} {l : Nat} {args : Array Value} {W : World} {R : Ending → World → Prop} (h : YieldAt Fence.wide m P l args W R) : YieldAt Fence.wide m' P l args W R := by
  obtain ⟨fn, tmps, assign, body, hy, hR⟩ := h
  exact ⟨fn, tmps, assign, body, hy, RoundIn.anyDepth hR⟩
theorem keeps_b {n₀ Bt : Nat} {w : World} (hn : n₀ ≤ w.heap.size) (hb : Bt < w.heap.size) (W : World) (l : Nat) (o o' : Obj) (hl : w.heap.size ≤ l) (h : W.heap[l]? = some o) (h1 : o.isCells = false) (h2 : o.isWalk = false) : Keeps n₀ Bt W (W.putObj l o') :=
  ⟨belowK_b hn W l o o' hl h h1 h2, (belowK_b (n₀ := w.heap.size) (Nat.le_refl _) W l o o' hl h h1 h2).block Bt hb⟩

/-- One round of the loop that is handed places and bytes. -/
def HandsB (t : List UInt8) (l n₀ Bt N : Nat) (J Jx : List (Pl t) → World → Prop) : Prop :=
  ∀ m pre (x : Pl t) W, J pre W → pre.length < N → YieldAt Fence.wide m Try.prog l #[.int .i64 (x.i : Int), .int .u8 x.c.toNat] W fun e W' =>
    (e = .returned (.bool true) ∧ J (pre ++ [x]) W' ∧ Keeps n₀ Bt W W') ∨ (e = .returned (.bool false) ∧ Jx (pre ++ [x]) W')

set_option maxRecDepth 100000 in
set_option maxHeartbeats 2000000 in
theorem back_in (lp n₀ Bt : Nat) (A : Option Addr) (c : Nat) (l : List UInt8) (J Jx : List (Pl l) → World → Prop) (hY : HandsB l lp n₀ Bt l.length J Jx) (n : Nat) (hl : l.length ≤ 20000) (W : World) (hs : SlB W n₀ A l)
    (hb : W.cell? ⟨Bt, 0, none⟩ = some (.slice A l.length c)) (hJ : J [] W) :
    CallsIn Fence.wide n Try.prog 82 #[.func (.yield lp) #[] #[], .pointer (some ⟨Bt, 0, none⟩)] W fun e W' =>
      (∃ v, e = .returned v) ∧ (J (backL l) W' ∨ ∃ q, q <+: backL l ∧ Jx q W') := by
  refine callsIn_of_wp Try.func82 rfl trivial ?_ rfl
  simp only [Try.ntmps82, List.size_toArray, List.length_cons, List.length_nil, Nat.reduceAdd, Nat.reduceSub, Array.replicate_succ, Array.replicate_zero, List.push_toArray, List.append_toArray, List.nil_append, List.cons_append]
  gi_wp2
  gi_loopw [3] (fun i wr => ∃ (j : Nat) (pre : List (Pl l)), j ≤ l.length ∧ i = .int .i64 ((j : Int) - 1) ∧ Hid (pre ++ backFrom l j = backL l) ∧ Hid (pre.length + j = l.length) ∧ J pre wr ∧ Hid (Keeps n₀ Bt W wr)) (fun i _ => (intOf i + 1).toNat)
  case atStart => exact ⟨l.length, [], Nat.le_refl _, rfl, rfl, (by show [].length + l.length = l.length; simp), hJ, Keeps.refl _ _ _⟩
  case round =>
    obtain ⟨j, pre, hj, rfl, HP, HL, hJk, HB⟩ := hrel
    clear hJ
    cases j with
    | zero =>
      have HP0 := Lib.hid (show pre = backL l by have := HP.out; rwa [show backFrom l 0 = [] from rfl, List.append_nil] at this)
      gi_wp2
      go_end0
      exact ⟨⟨_, rfl⟩, .inl (by rw [← HP0.out]; exact hJk)⟩
    | succ j =>
      have hjl : j < l.length := by omega
      have hst := backFrom_step l j hjl
      have hp := HP.out
      rw [hst] at hp
      have HP1 := Lib.hid hp
      have hne : l ≠ [] := fun e => by rw [e] at hjl; simp at hjl
      obtain ⟨a, ea, hlt, hc⟩ := hs hne
      subst ea
      have hbc := (HB.out.cell 0).trans hb
      have hac := (HB.out.low.cell (p := a.add j) (by rw [add_block]; exact hlt)).trans (hc j _ (List.getElem?_eq_getElem hjl))
      have e1 : (((j + 1 : Nat) : Int) - 1) = (j : Int) := by omega
      rw [e1]
      obtain ⟨fn, tmps, assign, body, hy, hR⟩ := hY (n - 1) pre ⟨j, l[j], List.getElem?_eq_getElem hjl⟩ wr hJk (by have := HL.out; omega)
      have hy' : (Instr.yield lp #[.int .i64 (j : Int), .int .u8 l[j].toNat]).run Try.prog wr = .ok (.round lp fn tmps assign body) wr := hy
      clear hst hp hc hb e1 hy
      gi_wp2
      refine ⟨wide_deep _, ?_⟩
      refine hR.mono ?_
      rintro e W3 (⟨rfl, hJ3, hk3⟩ | ⟨rfl, hJx3⟩)
      · gi_wp2
        go_roundw
        case rel => exact ⟨j, pre ++ [⟨j, l[j], List.getElem?_eq_getElem hjl⟩], by omega, rfl, (by show _ = _; rw [← HP1.out, List.append_assoc]; rfl), (by show _ = _; have h9 := HL.out; rw [List.length_append]; show pre.length + 1 + j = _; omega), hJ3, HB.out.trans hk3⟩
        case measure => simp [intOf]
      · gi_wp2
        refine bodyPost_ret (results_none rfl _ _ _) rfl ?_
        exact ⟨⟨_, rfl⟩, .inr ⟨pre ++ [⟨j, l[j], List.getElem?_eq_getElem hjl⟩], ⟨backFrom l j, by rw [← HP1.out, List.append_assoc]; rfl⟩, hJx3⟩⟩

/-- Backward's value hands on the places and bytes, the last one first, or a part of them. -/
theorem back_stops (n n₀ Bt : Nat) (A : Option Addr) (c : Nat) (l : List UInt8) (hl : l.length ≤ 20000) (w : World) (hBt : Bt < w.heap.size) (hn₀ : n₀ ≤ w.heap.size) (hs : SlB w n₀ A l) (hb : w.cell? ⟨Bt, 0, none⟩ = some (.slice A l.length c)) :
    SeqStopsK Fence.wide n Try.prog 82 #[.pointer (some ⟨Bt, 0, none⟩)] (fun x : Pl l => #[Value.int .i64 (x.i : Int), Value.int .u8 x.c.toNat]) (Keeps n₀ Bt) (fun ys => ys = backL l) (fun pre => pre <+: backL l) l.length w := fun lp J Jx W hW _ _ hY h0' => by
  have hH : HandsB l lp n₀ Bt l.length J Jx := fun m pre c W1 hj hl => YieldAt.anyDepth m (hY pre c W1 hj hl)
  have g0 := (hW.cell (p := ⟨Bt, 0, none⟩) hBt).trans hb
  refine (back_in lp n₀ Bt A c l J Jx hH n hl W (hs.next hW hn₀) g0 h0').mono ?_
  rintro e W' ⟨hv, hj | ⟨q, hq, hx⟩⟩
  · exact ⟨hv, .inl ⟨_, rfl, hj⟩⟩
  · exact ⟨hv, .inr ⟨q, hq, hx⟩⟩

set_option maxHeartbeats 400000 in
theorem backOf_any (A : Option Addr) (n c : Nat) (w : World) :
    Calls Try.prog 54 #[.slice A n c] w fun e w' => e = .returned (.func (.func 82) #[] #[.pointer (some ⟨w.heap.size, 0, none⟩)]) ∧ w' = w.alloc (.cells #[.slice A n c] 29) := by
  go_enter Try.func54, Try.ntmps54
  go_wp2
  go_ret
  exact ⟨rfl, rfl⟩

end Go.Proofs.Ytdlkblnnnmgijaa
