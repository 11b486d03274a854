/-
  CONTRACTS of what hands bytes on to a loop: say, hex, escaped, sayEach.
-/
import Derived.Test.YtpnjolacmkcofaaDoorLeaf
import Derived.RangeFuncNested
import Derived.RangeFuncBound
import Derived.RangeFuncCalls
import Derived.RangeFuncLeaves
import Derived.Shelf.Abstract
import Derived.Shelf.RegionOpen
import Derived.OwnWalkIn
import Derived.TacticsInMore
import Derived.LoopNIn
import Derived.LoopIn
namespace Go.Proofs.YtpnjolacmkcofaaDoor
open Go.RowKit Go.Shelf
attribute [local go_sem] Oper.semAt_some

/-- What lay below n₀, and in block Bt, lies. -/
structure Keeps (n₀ Bt : Nat) (A B : World) : Prop where
  low : Below n₀ A B
  box : B.heap[Bt]? = A.heap[Bt]?
theorem Keeps.refl (n₀ Bt : Nat) (A : World) : Keeps n₀ Bt A A := ⟨Below.refl _ _, rfl⟩
theorem Keeps.trans {n₀ Bt : Nat} {A B C : World} (h : Keeps n₀ Bt A B) (k : Keeps n₀ Bt B C) : Keeps n₀ Bt A C := ⟨h.low.trans k.low, k.box.trans h.box⟩
theorem Keeps.cell {n₀ Bt : Nat} {A B : World} (h : Keeps n₀ Bt A B) (i : Nat) : B.cell? ⟨Bt, i, none⟩ = A.cell? ⟨Bt, i, none⟩ := World.cell?_of_block (w := A) (a := ⟨Bt, i, none⟩) h.box

/-- One round of the loop that is handed bytes: at a byte it goes on (J, and what lay below n₀ and in block Bt lies), or it says 'no more' (Jx). -/
def Hands (l n₀ Bt N : Nat) (J Jx : List UInt8 → World → Prop) : Prop :=
  ∀ m pre x W, J pre W → pre.length < N → YieldAt Fence.wide m Tryd.prog l #[.int .u8 (x : UInt8).toNat] W fun e W' =>
    (e = .returned (.bool true) ∧ J (pre ++ [x]) W' ∧ Keeps n₀ Bt W W') ∨ (e = .returned (.bool false) ∧ Jx (pre ++ [x]) W')

theorem wide_deep (k : Nat) : Fence.wide.depth.isSome = true → 1 ≤ k := fun h => by cases h

theorem take_snoc (s : ByteArray) (k : Nat) (h : k < s.size) : s.data.toList.take (k + 1) = s.data.toList.take k ++ [s[k]] := by
  rw [List.take_succ_eq_append_getElem (by simpa using h)]; rfl

set_option maxRecDepth 100000 in
set_option maxHeartbeats 1000000 in
theorem say_in (l n₀ Bt N : Nat) (J Jx : List UInt8 → World → Prop) (hY : Hands l n₀ Bt N J Jx) (n : Nat) (s : ByteArray) (hs : s.size ≤ maxLen) (pre : List UInt8) (W : World) (hJ : J pre W) (hN : pre.length + s.size ≤ N) :
    CallsIn Fence.wide n Tryd.prog 31 #[.string s, .func (.yield l) #[] #[]] W fun e W' =>
      (e = .returned (.bool true) ∧ J (pre ++ s.data.toList) W' ∧ Keeps n₀ Bt W W') ∨ (e = .returned (.bool false) ∧ ∃ q, q <+: s.data.toList ∧ Jx (pre ++ q) W') := by
  unfold maxLen at hs
  have hl : s.data.toList.length = s.size := Array.length_toList
  refine callsIn_of_wp Tryd.func31 rfl trivial ?_ rfl
  simp only [Tryd.ntmps31, List.size_toArray, List.length_cons, List.length_nil, Nat.reduceAdd, Nat.reduceSub, Array.replicate_succ, Array.replicate_zero, List.push_toArray, List.append_toArray, List.nil_append, List.cons_append]
  gi_wp2
  gi_loopw [8] (fun i wr => ∃ k : Nat, k ≤ s.size ∧ i = .int .i64 k ∧ J (pre ++ s.data.toList.take k) wr ∧ Keeps n₀ Bt W wr) (fun i _ => s.size - (intOf i).toNat)
  case atStart => exact ⟨0, by omega, rfl, by simpa using hJ, Keeps.refl _ _ _⟩
  case round =>
    obtain ⟨k, hk, rfl, hJk, hB⟩ := hrel
    by_cases hlt : k < s.size
    · obtain ⟨fn, tmps, assign, body, hy, hR⟩ := hY (n - 1) _ s[k] wr hJk (by simp; omega)
      gi_wp2
      refine ⟨wide_deep _, ?_⟩
      refine hR.mono ?_
      rintro e W3 (⟨rfl, hJ3, hk3⟩ | ⟨rfl, hJx3⟩)
      · gi_wp2
        go_roundw
        case rel => exact ⟨k + 1, by omega, by go_num, by rw [take_snoc s k hlt, ← List.append_assoc]; exact hJ3, hB.trans hk3⟩
        case measure => simp [intOf]; omega
      · gi_wp2
        go_ret
        exact .inr ⟨rfl, s.data.toList.take k ++ [s[k]], by rw [← take_snoc s k hlt]; exact List.take_prefix _ _, by rw [← List.append_assoc]; exact hJx3⟩
    · obtain rfl : k = s.size := by omega
      gi_wp2
      go_ret
      exact .inl ⟨rfl, by rw [List.take_of_length_le (by omega)] at hJk; exact hJk, hB⟩

theorem conv2 (w : World) (x y : UInt8) : (convert 40 9 (.slice (some ⟨w.heap.size, 0, none⟩) 2 2)).run Tryd.prog ((w.alloc (.cells #[.int .u8 x.toNat, .int .u8 y.toNat] 5)).drew) = .ok (.string ⟨#[x, y]⟩) ((w.alloc (.cells #[.int .u8 x.toNat, .int .u8 y.toNat] 5)).drew) := by
  have h := run_convert_bytes_back (P := Tryd.prog) ((w.alloc (.cells #[.int .u8 x.toNat, .int .u8 y.toNat] 5)).drew) 40 9 5 ⟨w.heap.size, 0, none⟩ 2 [x, y] Tryd.underlying40 Tryd.underlying5 Tryd.underlying9 (fun j hj => by
    match j, hj with
    | 0, _ => go_simp
    | 1, _ => go_simp)
  exact h
theorem conv1 (w : World) (x : UInt8) : (convert 40 9 (.slice (some ⟨w.heap.size, 0, none⟩) 1 1)).run Tryd.prog (w.alloc (.cells #[.int .u8 x.toNat] 5)) = .ok (.string ⟨#[x]⟩) (w.alloc (.cells #[.int .u8 x.toNat] 5)) := by
  have h := run_convert_bytes_back (P := Tryd.prog) (w.alloc (.cells #[.int .u8 x.toNat] 5)) 40 9 5 ⟨w.heap.size, 0, none⟩ 1 [x] Tryd.underlying40 Tryd.underlying5 Tryd.underlying9 (fun j hj => by
    match j, hj with
    | 0, _ => go_simp)
  exact h

theorem dig16 : ∀ (i : Nat) (h : i < 16), (⟨#[48, 49, 50, 51, 52, 53, 54, 55, 56, 57, 97, 98, 99, 100, 101, 102]⟩ : ByteArray)[i]'h = hexD i := by decide +kernel
theorem hex_eq (c : UInt8) {h1 : c.toNat / 16 < 16} {h2 : c.toNat % 16 < 16} : Ending.returned (.string ⟨#[(⟨#[48, 49, 50, 51, 52, 53, 54, 55, 56, 57, 97, 98, 99, 100, 101, 102]⟩ : ByteArray)[c.toNat / 16]'h1, (⟨#[48, 49, 50, 51, 52, 53, 54, 55, 56, 57, 97, 98, 99, 100, 101, 102]⟩ : ByteArray)[c.toNat % 16]'h2]⟩) = .returned (.string ⟨(hexL c).toArray⟩) := by
  rw [dig16 _ h1, dig16 _ h2]; rfl

theorem and15_all : ∀ n : Fin 256, bits BinOp.and IntKind.u8 (n.val : Int) 15 = (n.val : Int) % 16 := by decide +kernel
theorem and15 (c : UInt8) : bits BinOp.and IntKind.u8 (c.toNat : Int) 15 = (c.toNat : Int) % 16 := and15_all ⟨c.toNat, c.toNat_lt⟩

set_option maxRecDepth 100000 in
set_option maxHeartbeats 400000 in
theorem hex_any (c : UInt8) (w : World) :
    Calls Tryd.prog 35 #[.int .u8 c.toNat] w fun e w' => e = .returned (.string ⟨(hexL c).toArray⟩) ∧ Below w.heap.size w w' := by
  have h1 : (0 : Int) ≤ (c.toNat : Int) / 16 := by omega
  have h2 : (c.toNat : Int) / 16 < 16 := by have := c.toNat_lt; omega
  have h3 : (0 : Int) ≤ (c.toNat : Int) % 16 := by omega
  have h4 : (c.toNat : Int) % 16 < 16 := by omega
  have h5 := and15 c
  have hcv := conv2 w
  go_enter Tryd.func35, Tryd.ntmps35
  go_wp2
  go_region
  all_goals go_wp2
  all_goals go_ret
  all_goals exact ⟨hex_eq c, ((Below.refl _ _).alloc (Nat.le_refl _) _).drew⟩

theorem plainB_lo {c : Int} (h : c < 32) : plainB c = false := decide_eq_false (by omega)
theorem plainB_hi {c : Int} (h : 126 < c) : plainB c = false := decide_eq_false (by omega)
theorem plainB_34 {c : Int} (h : c = 34) : plainB c = false := decide_eq_false (by omega)
theorem plainB_92 {c : Int} (h : c = 92) : plainB c = false := decide_eq_false (by omega)
theorem plainB_mk {c : Int} (h1 : ¬ c < 32) (h2 : ¬ 126 < c) (h3 : ¬ c = 34) (h4 : ¬ c = 92) : plainB c = true := decide_eq_true (by omega)
theorem escL_plain {c : UInt8} (h : plainB c.toNat = true) : escL c = [c] := if_pos h
theorem escL_not {c : UInt8} (h : plainB c.toNat = false) : escL c = 92 :: hexL c := if_neg (by simp [h])

theorem cat_bytes (a b : List UInt8) : (⟨a.toArray⟩ : ByteArray) ++ ⟨b.toArray⟩ = ⟨(a ++ b).toArray⟩ := by
  apply ByteArray.ext; simp
theorem cat92 (l : List UInt8) : Ending.returned (.string ((⟨#[92]⟩ : ByteArray) ++ ⟨l.toArray⟩)) = .returned (.string ⟨(92 :: l).toArray⟩) := by
  rw [show (⟨#[92]⟩ : ByteArray) ++ ⟨l.toArray⟩ = ⟨(92 :: l).toArray⟩ from cat_bytes [92] l]

/-- the way of an escape -/
theorem escaped_not (c : UInt8) (w : World) (hp : Hid (plainB c.toNat = false))
    (ht : (c.toNat : Int) < 32 ∨ 126 < (c.toNat : Int) ∨ (c.toNat : Int) = 34 ∨ (c.toNat : Int) = 92) :
    Calls Tryd.prog 36 #[.int .u8 c.toNat] w fun e w' => e = .returned (.string ⟨(escL c).toArray⟩) ∧ Below w.heap.size w w' := by
  have hE : Hid (escL c = 92 :: hexL c) := escL_not hp.out
  by_cases h1 : (c.toNat : Int) < 32
  · clear ht
    go_enter Tryd.func36, Tryd.ntmps36
    go_wp2_with (go_at_call 35; refine (hex_any _ _).mono ?_; rintro e w' ⟨rfl, hb⟩)
    go_ret
    exact ⟨by rw [hE.out]; exact cat92 _, hb⟩
  · by_cases h2 : 126 < (c.toNat : Int)
    · clear ht
      go_enter Tryd.func36, Tryd.ntmps36
      go_wp2_with (go_at_call 35; refine (hex_any _ _).mono ?_; rintro e w' ⟨rfl, hb⟩)
      go_ret
      exact ⟨by rw [hE.out]; exact cat92 _, hb⟩
    · by_cases h3 : (c.toNat : Int) = 34
      · have hb3 : ((c.toNat : Int) == 34) = true := by rw [beq_iff_eq]; exact h3
        clear ht h3
        go_enter Tryd.func36, Tryd.ntmps36
        go_wp2_with (go_at_call 35; refine (hex_any _ _).mono ?_; rintro e w' ⟨rfl, hb⟩)
        go_ret
        exact ⟨by rw [hE.out]; exact cat92 _, hb⟩
      · have hb3 : ((c.toNat : Int) == 34) = false := by rw [beq_eq_false_iff_ne]; exact h3
        have h4 : (c.toNat : Int) = 92 := by omega
        have hb4 : ((c.toNat : Int) == 92) = true := by rw [beq_iff_eq]; exact h4
        clear ht h3 h4
        go_enter Tryd.func36, Tryd.ntmps36
        go_wp2_with (go_at_call 35; refine (hex_any _ _).mono ?_; rintro e w' ⟨rfl, hb⟩)
        go_ret
        exact ⟨by rw [hE.out]; exact cat92 _, hb⟩

set_option maxRecDepth 100000 in
theorem escaped_any (c : UInt8) (w : World) :
    Calls Tryd.prog 36 #[.int .u8 c.toNat] w fun e w' => e = .returned (.string ⟨(escL c).toArray⟩) ∧ Below w.heap.size w w' := by
  by_cases h1 : (c.toNat : Int) < 32
  · exact escaped_not c w (plainB_lo h1) (.inl h1)
  by_cases h2 : 126 < (c.toNat : Int)
  · exact escaped_not c w (plainB_hi h2) (.inr (.inl h2))
  by_cases h3 : (c.toNat : Int) = 34
  · exact escaped_not c w (plainB_34 h3) (.inr (.inr (.inl h3)))
  by_cases h4 : (c.toNat : Int) = 92
  · exact escaped_not c w (plainB_92 h4) (.inr (.inr (.inr h4)))
  have hE : Hid (escL c = [c]) := escL_plain (plainB_mk h1 h2 h3 h4)
  have hcv := conv1 w c
  have hb3 : ((c.toNat : Int) == 34) = false := by rw [beq_eq_false_iff_ne]; exact h3
  have hb4 : ((c.toNat : Int) == 92) = false := by rw [beq_eq_false_iff_ne]; exact h4
  clear h3 h4
  go_enter Tryd.func36, Tryd.ntmps36
  go_wp2
  go_ret
  exact ⟨by rw [hE.out]; rfl, (Below.refl _ _).alloc (Nat.le_refl _) _⟩

end Go.Proofs.YtpnjolacmkcofaaDoor
