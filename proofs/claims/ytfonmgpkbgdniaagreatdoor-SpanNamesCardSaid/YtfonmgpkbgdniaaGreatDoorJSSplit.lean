/-
  CONTRACT: strings.SplitSeq at a blank (its closure keeps the rest in a box of its own).
-/
import Derived.OwnWalkIn
import Derived.TacticsInMore
import Derived.LoopNIn
import Derived.LoopIn
import Derived.Test.YtfonmgpkbgdniaaGreatDoorJSRange
import Derived.Test.YtfonmgpkbgdniaaGreatDoorJSSplitP
import Derived.Test.YtfonmgpkbgdniaaGreatDoorJSCut
namespace Go.Proofs.YtfonmgpkbgdniaaGreatDoor
open Go.RowKit Go.Shelf
attribute [local go_sem] Oper.semAt_some

theorem extract_small (s : ByteArray) (o n : Nat) (h : s.size ≤ n) : (s.extract 0 o).size ≤ n := by
  have := ByteArray.size_extract (a := s) (b := 0) (e := o)
  omega
theorem wide_room (k : Nat) : Fence.wide.room k := fun d h => by cases h
theorem RoundIn.anyDepth {m m' : Nat} {P : Program} {l : Nat} {f : FuncId} {tmps : Array Value} {assign body : Code} {w : World} {R : Ending → World → Prop}
    (h : RoundIn Fence.wide m P l f tmps assign body w R) : RoundIn Fence.wide m' P l f tmps assign body w R := ⟨h.1, fun c cs _ => h.2 c cs (wide_room _)⟩
theorem YieldAt.anyDepth {m : Nat} (m' : Nat) {P : Program} {l : Nat} {args : Array Value} {W : World} {R : Ending → World → Prop} (h : YieldAt Fence.wide m P l args W R) : YieldAt Fence.wide m' P l args W R := by
  obtain ⟨fn, tmps, assign, body, hy, hR⟩ := h
  exact ⟨fn, tmps, assign, body, hy, RoundIn.anyDepth hR⟩

theorem wide_deep (k : Nat) : Fence.wide.depth.isSome = true → 1 ≤ k := fun h => by cases h
def dl (s : ByteArray) : List UInt8 := s.data.toList
/-- the iterator's three boxes lie as they lay -/
def Keep3 (b : Nat) (A C : World) : Prop := ∀ k, b ≤ k → k < b + 3 → C.heap[k]? = A.heap[k]?
theorem Keep3.trans {b : Nat} {A B C : World} (h : Keep3 b A B) (k : Keep3 b B C) : Keep3 b A C := fun j h1 h2 => (k j h1 h2).trans (h j h1 h2)
theorem Keep3.boxed {b i : Nat} {A C : World} {t : TypeId} {v : Value} (h : Keep3 b A C) (hi : i < 3) (hb : Boxed A (b + i) t v) : Boxed C (b + i) t v := (h (b + i) (by omega) (by omega)).trans hb
/-- One round of the loop that is handed pieces. -/
def HandsP (b l N : Nat) (J Jx : List ByteArray → World → Prop) : Prop :=
  ∀ m pre (x : ByteArray) W, J pre W → pre.length < N → x.size ≤ 5000 → YieldAt Fence.wide m Tryz.prog l #[.string x] W fun e W' =>
    (e = .returned (.bool true) ∧ J (pre ++ [x]) W' ∧ Keep3 b W W') ∨ (e = .returned (.bool false) ∧ Jx (pre ++ [x]) W')
/-- how much of the text is left -/
def leftN (b : Nat) (W : World) : Nat := match W.cell? ⟨b, 0, none⟩ with
  | some (.string s) => s.size
  | _ => 0
theorem leftN_is {b : Nat} {W : World} {t : TypeId} {s : ByteArray} (h : Boxed W b t (.string s)) : leftN b W = s.size := by unfold leftN; rw [h.cell]

set_option maxRecDepth 100000 in
set_option maxHeartbeats 2000000 in
theorem split_in (lp Bt N : Nat) (s : ByteArray) (J Jx : List ByteArray → World → Prop) (hJs : ∀ pre X v, J pre X → J pre (X.setCell ⟨Bt, 0, none⟩ v)) (hY : HandsP Bt lp N J Jx) (n : Nat)
    (hN : (splitL (dl s)).length ≤ N) (hs : s.size ≤ 5000) (W : World) (hb : Boxed W (Bt + 0) 9 (.string s)) (hb1 : Boxed W (Bt + 1) 9 (.string ⟨#[32]⟩)) (hb2 : Boxed W (Bt + 2) 3 (.int .i64 0)) (hJ : J [] W) :
    CallsIn Fence.wide n Tryz.prog 50 #[.func (.yield lp) #[] #[], .pointer (some ⟨Bt + 1, 0, none⟩), .pointer (some ⟨Bt, 0, none⟩), .pointer (some ⟨Bt + 2, 0, none⟩)] W fun e W' =>
      (∃ v, e = .returned v) ∧ ((∃ ys, ys.map dl = splitL (dl s) ∧ J ys W') ∨ ∃ q, q.map dl <+: splitL (dl s) ∧ Jx q W') := by
  refine callsIn_of_wp Tryz.func50 rfl trivial ?_ rfl
  simp only [Tryz.ntmps50, List.size_toArray, List.length_cons, List.length_nil, Nat.reduceAdd, Nat.reduceSub, Array.replicate_succ, Array.replicate_zero, List.push_toArray, List.append_toArray, List.nil_append, List.cons_append]
  have g1 := hb1.cell
  gi_wp2
  clear g1
  gi_loopw [7, 8] (fun _ _ wr => ∃ (pre : List ByteArray) (cur : ByteArray), Hid (pre.map dl ++ splitL (dl cur) = splitL (dl s)) ∧ J pre wr ∧ Boxed wr (Bt + 0) 9 (.string cur) ∧ Boxed wr (Bt + 1) 9 (.string ⟨#[32]⟩) ∧ Boxed wr (Bt + 2) 3 (.int .i64 0) ∧ cur.size ≤ 5000) (fun _ _ wr => leftN Bt wr)
  case atStart => exact ⟨[], s, rfl, hJ, hb, hb1, hb2, hs⟩
  case round =>
    obtain ⟨pre, cur, HT, hJk, k0, k1, k2, hcs⟩ := hrel
    clear hJ hb hb1 hb2
    have q0 := k0.cell
    have q1 := k1.cell
    have q2 := k2.cell
    have qf := k0.frozen
    simp only [Nat.add_zero] at q0 qf
    gi_wp2_with fail
    refine ⟨trivial, wide_deep _, ?_⟩
    refine (callsIn_wide.2 (Tryz.strings_Index_one cur 32 wr)).mono ?_
    rintro e w3 ⟨rfl, rfl⟩
    have hpl : pre.length < N := by
      have h1 := congrArg List.length HT.out
      rw [List.length_append, List.length_map] at h1
      have := splitL_pos (dl cur)
      omega
    rcases (by have := Lib.indexByte_ge cur.data.toList 32; omega : Lib.indexByte cur.data.toList 32 = -1 ∨ 0 ≤ Lib.indexByte cur.data.toList 32) with hx | hx
    · have HE : Hid ((pre ++ [cur]).map dl = splitL (dl s)) := by
        show _ = _
        rw [← HT.out, show splitL (dl cur) = [dl cur] from splitL_end (cut_none hx), List.map_append]; rfl
      rw [hx]
      obtain ⟨fn, tmps, assign, body, hy, hR⟩ := hY (n - 1) pre cur w3 hJk hpl hcs
      have hy' : (Instr.yield lp #[.string cur]).run Tryz.prog w3 = .ok (.round lp fn tmps assign body) w3 := hy
      clear hy k0 k1 k2 hx
      gi_wp2
      refine ⟨wide_deep _, ?_⟩
      refine hR.mono ?_
      rintro e W5 (⟨rfl, hJ5, _⟩ | ⟨rfl, hJx5⟩)
      · gi_wp2
        go_end0
        exact ⟨⟨_, rfl⟩, .inl ⟨_, HE.out, hJ5⟩⟩
      · gi_wp2
        go_end0
        exact ⟨⟨_, rfl⟩, .inr ⟨_, by rw [HE.out]; exact List.prefix_refl _, hJx5⟩⟩
    · obtain ⟨o, ho⟩ : ∃ o : Nat, Lib.indexByte cur.data.toList 32 = o := ⟨(Lib.indexByte cur.data.toList 32).toNat, by omega⟩
      obtain ⟨hlt, e1, e2⟩ := cut_split ho
      have HE : Hid ((pre ++ [cur.extract 0 o]).map dl ++ splitL (dl (cur.extract (o + 1) cur.size)) = splitL (dl s)) := by
        show _ = _
        rw [← HT.out, show dl cur = _ from e1, splitL_mid _ e2, List.map_append]
        simp [dl]
      rw [ho]
      have hm : (cur.extract (o + 1) cur.size).size ≤ 5000 ∧ (cur.extract (o + 1) cur.size).size < cur.size := by
        rw [ByteArray.size_extract]; omega
      have hol : ¬ ((o : Int) < 0) := by omega
      have c1 : (0 : Int) ≤ (o : Int) := by omega
      have c2 : (o : Int) ≤ (cur.size : Int) := by omega
      have c3 : (0 : Int) ≤ (o : Int) + 1 := by omega
      have c4 : (o : Int) + 1 ≤ (cur.size : Int) := by omega
      have hw1 : IntKind.i64.wrap ((o : Int) + 1) = (o : Int) + 1 := IntWalk.i64_in _ (by omega)
      have hw2 : wrap64 ((o : Int) + 1) = (o : Int) + 1 := by unfold wrap64; omega
      have hw3 : IntKind.i64.wrap (o : Int) = (o : Int) := IntWalk.i64_in _ (by omega)
      have hw4 : wrap64 (o : Int) = (o : Int) := by unfold wrap64; omega
      obtain ⟨fn, tmps, assign, body, hy, hR⟩ := hY (n - 1) pre (cur.extract 0 o) w3 hJk hpl (extract_small cur o 5000 hcs)
      have hy' : (Instr.yield lp #[.string (cur.extract 0 o)]).run Tryz.prog w3 = .ok (.round lp fn tmps assign body) w3 := hy
      have HLT := Lib.hid hm
      have HPF : Hid ((pre ++ [cur.extract 0 o]).map dl <+: splitL (dl s)) := ⟨_, HE.out⟩
      have HL := Lib.hid (leftN_is k0)
      clear hy hx ho e1 e2 hm
      gi_wp2
      refine ⟨wide_deep _, ?_⟩
      refine hR.mono ?_
      rintro e W5 (⟨rfl, hJ5, hk5⟩ | ⟨rfl, hJx5⟩)
      · have k0' := hk5.boxed (by decide) k0
        have k1' := hk5.boxed (by decide) k1
        have k2' := hk5.boxed (by decide) k2
        have p0 := k0'.cell
        have p1 := k1'.cell
        have p2 := k2'.cell
        have pf := k0'.frozen
        simp only [Nat.add_zero] at p0 pf
        have K0 := Lib.hid k0'
        have K1 := Lib.hid k1'
        have K2 := Lib.hid k2'
        clear q0 q1 q2 qf k0 k1 k2 k0' k1' k2' hR hy'
        gi_wp2
        go_roundw
        case rel => exact ⟨_, cur.extract (o + 1) cur.size, HE.out, hJs _ _ _ hJ5, K0.out.set _, K1.out.other (by omega) _, K2.out.other (by omega) _, HLT.out.1⟩
        case measure =>
          have h9 := leftN_is (K0.out.set (.string (cur.extract (o + 1) cur.size)))
          have := HL.out
          have := HLT.out.2
          simp only [Nat.add_zero] at *
          omega
      · gi_wp2
        refine bodyPost_ret (results_none rfl _ _ _) rfl ?_
        exact ⟨⟨_, rfl⟩, .inr ⟨_, HPF.out, hJx5⟩⟩

/-- what the closure hands on: the pieces between blanks -/
theorem split_stops (n Bt : Nat) (s : ByteArray) (hs : s.size ≤ 5000) (w : World) (hb : Boxed w (Bt + 0) 9 (.string s)) (hb1 : Boxed w (Bt + 1) 9 (.string ⟨#[32]⟩)) (hb2 : Boxed w (Bt + 2) 3 (.int .i64 0)) :
    StopsBox Fence.wide n Tryz.prog 50 #[.pointer (some ⟨Bt + 1, 0, none⟩), .pointer (some ⟨Bt, 0, none⟩), .pointer (some ⟨Bt + 2, 0, none⟩)] (fun x : ByteArray => #[.string x]) Bt (fun x => x.size ≤ 5000) (Keep3 Bt) (fun ys => ys.map dl = splitL (dl s)) (fun q => q.map dl <+: splitL (dl s)) (splitL (dl s)).length w := fun lp J Jx W hW _ hJs hY h0 => by
  have hH : HandsP Bt lp (splitL (dl s)).length J Jx := fun m pre x W1 hj hl hx => YieldAt.anyDepth m (hY pre x W1 hj hl hx)
  have up : ∀ {i t v}, Boxed w (Bt + i) t v → Boxed W (Bt + i) t v := fun h => (hW.block _ h.lt).trans h
  refine (split_in lp Bt _ s J Jx hJs hH n (Nat.le_refl _) hs W (up hb) (up hb1) (up hb2) h0).mono ?_
  rintro e W' ⟨hv, ⟨ys, hys, hj⟩ | ⟨q, hq, hx⟩⟩
  · exact ⟨hv, .inl ⟨ys, hys, hj⟩⟩
  · exact ⟨hv, .inr ⟨q, hq, hx⟩⟩
/-- the world with the iterator's three boxes -/
def boxW (w : World) (s : ByteArray) : World := ((w.alloc (.cells #[.string s] 9)).alloc (.cells #[.string ⟨#[32]⟩] 9)).alloc (.cells #[.int .i64 0] 3)
set_option maxRecDepth 100000 in
theorem splitSeqIn_any (s : ByteArray) (w : World) : Calls Tryz.prog 40 #[.string s, .string ⟨#[32]⟩, .int .i64 0] w fun e w' =>
    e = .returned (.func (.func 50) #[] #[.pointer (some ⟨w.heap.size + 1, 0, none⟩), .pointer (some ⟨w.heap.size, 0, none⟩), .pointer (some ⟨w.heap.size + 2, 0, none⟩)]) ∧ w' = boxW w s := by
  go_enter Tryz.func40, Tryz.ntmps40
  go_wp2
  go_ret
  exact ⟨rfl, rfl⟩
set_option maxRecDepth 100000 in
theorem splitSeq_any (s : ByteArray) (w : World) : Calls Tryz.prog 27 #[.string s, .string ⟨#[32]⟩] w fun e w' =>
    e = .returned (.func (.func 50) #[] #[.pointer (some ⟨w.heap.size + 1, 0, none⟩), .pointer (some ⟨w.heap.size, 0, none⟩), .pointer (some ⟨w.heap.size + 2, 0, none⟩)]) ∧ w' = boxW w s := by
  go_enter Tryz.func27, Tryz.ntmps27
  go_wp2_with fail
  refine (splitSeqIn_any s _).mono ?_
  rintro e w1 ⟨rfl, rfl⟩
  go_wp2
  go_ret
  exact ⟨rfl, rfl⟩
end Go.Proofs.YtfonmgpkbgdniaaGreatDoor
