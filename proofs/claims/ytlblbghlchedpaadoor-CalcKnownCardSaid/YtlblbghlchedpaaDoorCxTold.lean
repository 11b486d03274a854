/-
  CONTRACT: the names told, family by family (the iterator told$1).
-/
import Derived.Test.YtlblbghlchedpaaDoorCxP
import Derived.Test.YtlblbghlchedpaaDoorLeaf
import Derived.RangeFuncNested
import Derived.RangeFuncBox
import Derived.Shelf.Abstract
import Derived.Shelf.RegionOpen
import Derived.OwnWalkIn
import Derived.TacticsInMore
import Derived.LoopNIn
import Derived.LoopIn
import Derived.Laws.EntriesVeiled
namespace Go.Proofs.YtlblbghlchedpaaDoor
open Go.RowKit Go.Shelf
attribute [local go_sem] Oper.semAt_some

theorem wide_deepC (k : Nat) : Fence.wide.depth.isSome = true → 1 ≤ k := fun h => by cases h
theorem wide_roomC (k : Nat) : Fence.wide.room k := fun d h => by cases h
theorem RoundIn.anyDepth {m m' : Nat} {P : Program} {l : Nat} {f : FuncId} {tmps : Array Value} {assign body : Code} {w : World} {R : Ending → World → Prop}
    (h : RoundIn Fence.wide m P l f tmps assign body w R) : RoundIn Fence.wide m' P l f tmps assign body w R := ⟨h.1, fun c cs _ => h.2 c cs (wide_roomC _)⟩
theorem YieldAt.anyDepth {m : Nat} (m' : Nat) {P : Program} {l : Nat} {args : Array Value} {W : World} {R : Ending → World → Prop} (h : YieldAt Fence.wide m P l args W R) : YieldAt Fence.wide m' P l args W R := by
  obtain ⟨fn, tmps, assign, body, hy, hR⟩ := h
  exact ⟨fn, tmps, assign, body, hy, RoundIn.anyDepth hR⟩
theorem abides_toC {α : Type} {B : Nat} {J : List α → World → Prop} (hJ : AbidesFrom B J) {p : List α} {w w' : World} (h : J p w) (hb : Below w.heap.size w w') : J p w' :=
  hJ p w w' none h ⟨hb.os, hb.tape, hb.output, hb.size, fun k hk _ => hb.block k hk⟩ (fun r e => by cases e)
def strB (s : Bt) : ByteArray := ⟨s.toArray⟩
def encC (x : Bt × Fin 4) : Array Value := #[.string (strB x.1), .int .i64 (x.2.val : Int)]
/-- the families as the program lays them -/
structure FamAt (W : World) (B : Nat) : Prop where
  low : 0 < B
  c0 : ∀ k, k < 4 → W.cell? ⟨0, k * 3, none⟩ = some (.bool (famP k))
  c1 : ∀ k, k < 4 → W.cell? ⟨0, k * 3 + 1, none⟩ = some (.int .i64 (famT k))
  c2 : ∀ k, k < 4 → ∃ b o c, b < B ∧ W.cell? ⟨0, k * 3 + 2, none⟩ = some (.slice (some ⟨b, o, none⟩) (famN k).length c) ∧ ∀ (j : Nat) (s : Bt), (famN k)[j]? = some s → W.cell? ⟨b, o + j, none⟩ = some (.string (strB s))
theorem FamAt.next {W W' : World} {B : Nat} (h : FamAt W B) (hb : Below B W W') : FamAt W' B :=
  ⟨h.low, fun k hk => (hb.cell (p := ⟨_, _, none⟩) h.low).trans (h.c0 k hk), fun k hk => (hb.cell (p := ⟨_, _, none⟩) h.low).trans (h.c1 k hk), fun k hk => by
    obtain ⟨b, o, c, hlt, h1, h2⟩ := h.c2 k hk
    exact ⟨b, o, c, hlt, (hb.cell (p := ⟨_, _, none⟩) h.low).trans h1, fun j s hs => (hb.cell (p := ⟨b, _, none⟩) hlt).trans (h2 j s hs)⟩⟩
theorem FamAt.more {W : World} {B B' : Nat} (h : FamAt W B) (hB : B ≤ B') : FamAt W B' :=
  ⟨Nat.lt_of_lt_of_le h.low hB, h.c0, h.c1, fun k hk => by
    obtain ⟨b, o, c, hlt, h1, h2⟩ := h.c2 k hk
    exact ⟨b, o, c, by omega, h1, h2⟩⟩
/-- what is told ahead of a family's name -/
def preC (k j : Nat) : List (Bt × Fin 4) := (((List.finRange 4).take k).flatMap fun i => (famN i.val).map fun s => (s, i)) ++ (if h : k < 4 then ((famN k).take j).map fun s => (s, (⟨k, h⟩ : Fin 4)) else [])
theorem preC_zero : preC 0 0 = [] := rfl
theorem preC_step (k j : Nat) (s : Bt) (hk : k < 4) (h : (famN k)[j]? = some s) : preC k (j + 1) = preC k j ++ [(s, ⟨k, hk⟩)] := by
  unfold preC
  rw [dif_pos hk, dif_pos hk, List.take_add_one, h, List.map_append, List.append_assoc]
  rfl
theorem fin_take : ∀ k (h : k < 4), (List.finRange 4).take (k + 1) = (List.finRange 4).take k ++ [⟨k, h⟩] := by decide +kernel
theorem preC_next (k : Nat) (hk : k < 4) : preC k (famN k).length = preC (k + 1) 0 := by
  unfold preC
  rw [dif_pos hk, List.take_length, fin_take k hk, List.flatMap_append]
  split <;> simp
theorem preC_end : preC 4 0 = toldC := rfl
theorem preC_pre : ∀ k, k < 4 → ∀ j, j ≤ (famN k).length → preC k j <+: toldC := by
  have h : ∀ k, k < 4 → ∀ j, j < (famN k).length + 1 → (preC k j).isPrefixOf toldC = true := by decide +kernel
  exact fun k hk j hj => List.isPrefixOf_iff_prefix.1 (h k hk j (by omega))
theorem fam_len : ∀ k, k < 4 → (famN k).length ≤ 10 := by decide +kernel
theorem toldC_len : toldC.length = 27 := by decide +kernel
/-- one round of the loop that is handed names -/
def HandsC (B lp N : Nat) (J Jx : List (Bt × Fin 4) → World → Prop) : Prop :=
  ∀ m pre (x : Bt × Fin 4) W, J pre W → pre.length < N → YieldAt Fence.wide m Tryd.prog lp (encC x) W fun e W' =>
    (e = .returned (.bool true) ∧ J (pre ++ [x]) W' ∧ Below B W W') ∨ (e = .returned (.bool false) ∧ Jx (pre ++ [x]) W')

set_option maxRecDepth 100000 in
set_option maxHeartbeats 2000000 in
theorem ctold_in (w : World) (B lp C : Nat) (J Jx : List (Bt × Fin 4) → World → Prop) (_hA : AbidesFrom C J) (hY : HandsC B lp 27 J Jx) (n : Nat) (W : World) (hBW : B ≤ W.heap.size) (hwW : Below B w W) (hF : FamAt w B) (hJ : J [] W) :
    CallsIn Fence.wide n Tryd.prog 20 #[.func (.yield lp) #[] #[]] W fun e W' =>
      (∃ v, e = .returned v) ∧ (J toldC W' ∨ ∃ q, q <+: toldC ∧ Jx q W') := by
  refine callsIn_of_wp Tryd.func20 rfl trivial ?_ rfl
  simp only [Tryd.ntmps20, List.size_toArray, List.length_cons, List.length_nil, Nat.reduceAdd, Nat.reduceSub, Array.replicate_succ, Array.replicate_zero, List.push_toArray, List.append_toArray, List.nil_append, List.cons_append]
  have HF := Lib.hid hF
  have HB0 := Lib.hid hwW
  clear hF hwW
  gi_wp2
  gi_loopw [2, 4, 5, 11, 12, 13] (fun _ _ y _ _ _ wr => ∃ k : Nat, y = .int .i64 (k : Int) ∧ k ≤ 4 ∧ J (preC k 0) wr ∧ Hid (Below B w wr) ∧ Hid (B ≤ wr.heap.size)) (fun _ _ y _ _ _ _ => 4 - (intOf y).toNat)
  case atStart => exact ⟨0, rfl, by omega, by rw [preC_zero]; exact hJ, HB0.out, hBW⟩
  case round =>
    obtain ⟨k, rfl, hk, hJk, HB, HSZ⟩ := hrel
    by_cases hk4 : k < 4
    · have hki : (k : Int) < 4 := by omega
      obtain ⟨b, o, c, hlt, h1, h2⟩ := (HF.out.next HB.out).c2 k hk4
      have hfl := fam_len k hk4
      obtain ⟨L, hL⟩ : ∃ L, (famN k).length = L := ⟨_, rfl⟩
      rw [hL] at h1 hfl
      have HL := Lib.hid hL
      have H2 := Lib.hid (show Hid (∀ W', Below B w W' → ∀ (j : Nat) (s : Bt), (famN k)[j]? = some s → W'.cell? ⟨b, o + j, none⟩ = some (.string (strB s))) from fun W' hb' j s hs => ((hb'.cell (p := ⟨b, o + j, none⟩) hlt).trans ((HB.out.cell (p := ⟨b, o + j, none⟩) hlt).symm.trans (h2 j s hs))))
      clear h2 hL hJ
      gi_wp2
      gi_loopw [4, 13] (fun _ y wr => ∃ j : Nat, y = .int .i64 (j : Int) ∧ j ≤ L ∧ J (preC k j) wr ∧ Hid (Below B w wr) ∧ Hid (B ≤ wr.heap.size)) (fun _ y _ => L - (intOf y).toNat)
      case atStart => exact ⟨0, rfl, by omega, hJk, HB.out, HSZ.out⟩
      case round =>
        obtain ⟨j, rfl, hj, hJj, HBj, HSj⟩ := hrel
        clear hJk
        by_cases hjL : j < L
        · have hji : (j : Int) < (L : Int) := by omega
          obtain ⟨s, hs⟩ : ∃ s, (famN k)[j]? = some s := ⟨(famN k)[j]'(by have := HL.out; omega), List.getElem?_eq_getElem _⟩
          have hc := H2.out _ HBj.out j s hs
          have HTS := Lib.hid (preC_step k j s hk4 hs)
          have HPR := Lib.hid (preC_pre k hk4 (j + 1) (by have := HL.out; omega))
          have HLN : Hid ((preC k j).length < 27) := by
            have h9 := HPR.out.length_le
            rw [HTS.out, List.length_append, List.length_singleton, toldC_len] at h9
            show _ < _; omega
          have HJK := Lib.hid hJj
          clear hs hJj
          obtain ⟨fn, tmps, assign, body, hy, hR⟩ := hY (n - 1) _ (s, ⟨k, hk4⟩) wr HJK.out HLN.out
          have hy' : (Instr.yield lp #[.string (strB s), .int .i64 (k : Int)]).run Tryd.prog wr = .ok (.round lp fn tmps assign body) wr := hy
          clear hy
          gi_wp2
          refine ⟨wide_deepC _, ?_⟩
          refine hR.mono ?_
          rintro e W5 (⟨rfl, hJ5, hk5⟩ | ⟨rfl, hJx5⟩)
          · have HB5 := Lib.hid (HBj.out.trans hk5)
            have HS5 := Lib.hid (Nat.le_trans HSj.out hk5.size)
            rw [← HTS.out] at hJ5
            clear hk5 hc hy'
            gi_wp2
            go_roundw
            case rel => exact ⟨j + 1, by go_num, by omega, hJ5, HB5.out, HS5.out⟩
            case measure => simp [intOf]; omega
          · gi_wp2
            refine bodyPost_ret (results_none rfl _ _ _) rfl ?_
            exact ⟨⟨_, rfl⟩, .inr ⟨preC k (j + 1), HPR.out, by rw [HTS.out]; exact hJx5⟩⟩
        · have hji : ¬ (j : Int) < (L : Int) := by omega
          have he : j = L := by omega
          have HN : Hid (J (preC (k + 1) 0) wr) := by
            rw [← preC_next k hk4, HL.out, ← he]; exact hJj
          clear hJj he
          gi_wp2
          go_roundw
          case rel => exact ⟨k + 1, by go_num, by omega, HN.out, HBj.out, HSj.out⟩
          case measure => simp [intOf]; omega
    · have hki : ¬ (k : Int) < 4 := by omega
      obtain rfl : k = 4 := by omega
      rw [preC_end] at hJk
      gi_wp2
      go_end0
      exact ⟨⟨_, rfl⟩, .inl hJk⟩
theorem ctold_stops (n B : Nat) (w : World) (hB : B ≤ w.heap.size) (hF : FamAt w B) :
    SeqStopsK Fence.wide n Tryd.prog 20 #[] encC (Below B) (fun ys => ys = toldC) (fun q => q <+: toldC) 27 w := fun lp J Jx W hW hA _ hY h0' => by
  have hH : HandsC B lp 27 J Jx := fun m pre x W1 hj hl => YieldAt.anyDepth m (hY pre x W1 hj hl)
  refine (ctold_in w B lp _ J Jx hA hH n W (Nat.le_trans hB hW.size) (hW.mono hB) hF h0').mono ?_
  rintro e W' ⟨hv, hj | ⟨q, hq, hx⟩⟩
  · exact ⟨hv, .inl ⟨_, rfl, hj⟩⟩
  · exact ⟨hv, .inr ⟨q, hq, hx⟩⟩
set_option maxHeartbeats 400000 in
theorem toldOfC_any (w : World) :
    Calls Tryd.prog 12 #[] w fun e w' => e = .returned (.func (.func 20) #[] #[]) ∧ w = w' := by
  go_enter Tryd.func12, Tryd.ntmps12
  go_wp2
  go_ret
  exact ⟨rfl, rfl⟩
end Go.Proofs.YtlblbghlchedpaaDoor
