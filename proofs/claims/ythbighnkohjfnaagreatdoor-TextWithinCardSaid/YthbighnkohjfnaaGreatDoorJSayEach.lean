import Derived.Below
import Derived.Laws.Strings
import Derived.Test.YthbighnkohjfnaaGreatDoorProg
import Derived.WalkKit
import Derived.WalkSpells
import Derived.WalkLawsBesides
import Derived.RangeFuncNested
import Derived.RangeFuncBound
import Derived.RangeFuncCalls
import Derived.RangeFuncLeaves
import Derived.Shelf.Abstract
import Derived.Shelf.RegionOpen
import Derived.OwnWalkIn
import Derived.TacticsInMore
import Derived.LoopNIn
import Derived.LoopIn
/-
  PLAIN FUNCTIONS (no program): which bytes are letters, digits, of a word; which values may be; how two stand.
-/
namespace Go.Proofs.YthbighnkohjfnaaGreatDoor
open Go.RowKit

def lowI (c : Int) : Bool := decide (97 ≤ c ∧ c ≤ 122)
def digI (c : Int) : Bool := decide (48 ≤ c ∧ c ≤ 57)
def inwI (c : Int) : Bool := lowI c || digI c || (c == 46) || (c == 95) || (c == 45) || (c == 47)

/-- may bytes be a word? -/
def wordL : List UInt8 → Bool
  | [] => false
  | c :: r => decide (r.length < 64) && lowI c.toNat && r.all (fun x => inwI x.toNat)
def wordB (s : ByteArray) : Bool := wordL s.data.toList

/-- may a value be? -/
def mayB (k n : Int) (s : ByteArray) : Bool :=
  if k = 1 ∨ k = 6 then decide (s.size = 0)
  else if k = 2 then decide (s.size = 0) && decide (n = 0 ∨ n = 1)
  else if k = 3 ∨ k = 4 then decide (n = 0) && decide (s.size ≤ 1000)
  else if k = 5 then decide (s.size = 0) && decide (0 ≤ n ∧ n < 9007199254740992)
  else if k = 7 then decide (n = 0) && wordB s
  else false

/-- a digit of sixteen, as a byte -/
def hexD (n : Nat) : UInt8 := if n < 10 then UInt8.ofNat (48 + n) else UInt8.ofNat (87 + n)
/-- a byte in two digits -/
def hexL (c : UInt8) : List UInt8 := [hexD (c.toNat / 16), hexD (c.toNat % 16)]
/-- does a byte stand as itself? -/
def plainB (c : Int) : Bool := decide (32 ≤ c ∧ c ≤ 126 ∧ c ≠ 34 ∧ c ≠ 92)
/-- a byte as it stands in a text's text -/
def escL (c : UInt8) : List UInt8 := if plainB c.toNat = true then [c] else 92 :: hexL c

/-- how two numbers stand -/
def ordI (a b : Int) : Int := if a < b then -1 else if b < a then 1 else 0
/-- how two texts stand, byte by byte -/
def ordL : List UInt8 → List UInt8 → Int
  | [], [] => 0
  | [], _ :: _ => -1
  | _ :: _, [] => 1
  | x :: l, y :: r => if x.toNat < y.toNat then -1 else if y.toNat < x.toNat then 1 else ordL l r
def ordS (a b : ByteArray) : Int := ordL a.data.toList b.data.toList
/-- how two values stand -/
def ordV (k n : Int) (s : ByteArray) (k' n' : Int) (s' : ByteArray) : Int :=
  if ordI k k' = 0 then (if ordI n n' = 0 then ordS s s' else ordI n n') else ordI k k'

theorem drop_at (s : ByteArray) (k : Nat) (h : k < s.size) : s.data.toList.drop k = s[k] :: s.data.toList.drop (k + 1) := by
  rw [List.drop_eq_getElem_cons (by simpa using h)]; rfl
theorem drop_end (s : ByteArray) (k : Nat) (h : s.size ≤ k) : s.data.toList.drop k = [] := by
  rw [List.drop_eq_nil_iff]; simpa using h

theorem u8_eq {x y : UInt8} (h1 : ¬ x.toNat < y.toNat) (h2 : ¬ y.toNat < x.toNat) : x = y := UInt8.toNat_inj.1 (by omega)

theorem less_ord : ∀ (l r : List UInt8), (Op.bytesLess l r = true → ordL l r = -1) ∧ (Op.bytesLess l r = false → (l == r) = false → ordL l r = 1) ∧ (l = r → ordL l r = 0)
  | [], [] => by simp [Op.bytesLess, ordL]
  | [], _ :: _ => by simp [Op.bytesLess, ordL]
  | _ :: _, [] => by simp [Op.bytesLess, ordL]
  | x :: l, y :: r => by
    have ih := less_ord l r
    simp only [Op.bytesLess, ordL]
    by_cases h1 : x.toNat < y.toNat
    · have h1' : x < y := UInt8.lt_iff_toNat_lt.2 h1
      simp only [h1, h1', if_true, decide_true, Bool.true_or]
      refine ⟨fun _ => by simp, fun h => by simp at h, fun h => ?_⟩
      cases h; omega
    · have h1' : ¬ x < y := fun h => h1 (UInt8.lt_iff_toNat_lt.1 h)
      by_cases h2 : y.toNat < x.toNat
      · have hne : (x == y) = false := by
          rw [beq_eq_false_iff_ne]; intro e; subst e; omega
        simp only [h1, h1', h2, hne, if_true, if_false, decide_false, Bool.false_or, Bool.false_and]
        refine ⟨fun h => by simp at h, fun _ _ => by simp, fun h => ?_⟩
        cases h; omega
      · obtain rfl := u8_eq h1 h2
        simp only [h1, h1', if_false, decide_false, Bool.false_or, beq_self_eq_true, Bool.true_and]
        refine ⟨ih.1, fun h h' => ih.2.1 h ?_, fun h => ih.2.2 (by simpa using h)⟩
        simpa using h'

theorem ord_self (l : List UInt8) : ordL l l = 0 := (less_ord l l).2.2 rfl

theorem ordL_range : ∀ (l r : List UInt8), ordL l r = -1 ∨ ordL l r = 0 ∨ ordL l r = 1
  | [], [] => by simp [ordL]
  | [], _ :: _ => by simp [ordL]
  | _ :: _, [] => by simp [ordL]
  | x :: l, y :: r => by
    have := ordL_range l r
    simp only [ordL]
    split
    · exact .inl rfl
    · split
      · exact .inr (.inr rfl)
      · exact this

theorem ordI_range (a b : Int) : ordI a b = -1 ∨ ordI a b = 0 ∨ ordI a b = 1 := by
  unfold ordI; split
  · exact .inl rfl
  · split
    · exact .inr (.inr rfl)
    · exact .inr (.inl rfl)
theorem ordI_zero {a b : Int} : ordI a b = 0 ↔ a = b := by
  unfold ordI; split
  · constructor <;> intro h <;> first | omega | (subst h; omega)
  · split
    · constructor <;> intro h <;> first | omega | (subst h; omega)
    · constructor <;> intro h <;> omega

end Go.Proofs.YthbighnkohjfnaaGreatDoor

/-
  CONTRACTS of the smallest functions: one byte in, a bool out; three orders.
-/
namespace Go.Proofs.YthbighnkohjfnaaGreatDoor
open Go.RowKit

theorem ret_bool {a b : Bool} (h : a = b) : Ending.returned (.bool a) = .returned (.bool b) := by rw [h]

set_option maxHeartbeats 400000 in
theorem isLetter_any (c : Int) (w : World) :
    Calls Tryz.prog 98 #[.int .u8 c] w fun e w' => e = .returned (.bool (lowI c)) ∧ w = w' := by
  by_cases h1 : 97 ≤ c
  · go_enter Tryz.func98, Tryz.ntmps98
    go_wp2
    go_ret
    exact ⟨ret_bool (by simp [lowI] <;> omega), rfl⟩
  · go_enter Tryz.func98, Tryz.ntmps98
    go_wp2
    go_ret
    exact ⟨ret_bool (by simp [lowI] <;> omega), rfl⟩

set_option maxHeartbeats 400000 in
theorem lower_any (c : Int) (w : World) :
    Calls Tryz.prog 108 #[.int .u8 c] w fun e w' => e = .returned (.bool (lowI c)) ∧ w = w' := by
  by_cases h1 : 97 ≤ c
  · go_enter Tryz.func108, Tryz.ntmps108
    go_wp2
    go_ret
    exact ⟨ret_bool (by simp [lowI] <;> omega), rfl⟩
  · go_enter Tryz.func108, Tryz.ntmps108
    go_wp2
    go_ret
    exact ⟨ret_bool (by simp [lowI] <;> omega), rfl⟩

set_option maxHeartbeats 400000 in
theorem digit_any (c : Int) (w : World) :
    Calls Tryz.prog 93 #[.int .u8 c] w fun e w' => e = .returned (.bool (digI c)) ∧ w = w' := by
  by_cases h1 : 48 ≤ c
  · go_enter Tryz.func93, Tryz.ntmps93
    go_wp2
    go_ret
    exact ⟨ret_bool (by simp [digI] <;> omega), rfl⟩
  · go_enter Tryz.func93, Tryz.ntmps93
    go_wp2
    go_ret
    exact ⟨ret_bool (by simp [digI] <;> omega), rfl⟩

set_option maxHeartbeats 800000 in
theorem inWord_any (c : Int) (w : World) :
    Calls Tryz.prog 99 #[.int .u8 c] w fun e w' => e = .returned (.bool (inwI c)) ∧ w = w' := by
  go_enter Tryz.func99, Tryz.ntmps99
  go_wp2_with (go_at_call 98; refine (isLetter_any _ _).mono ?_; rintro e w' ⟨rfl, rfl⟩)
  all_goals go_ret
  all_goals exact ⟨ret_bool (by simp [inwI, digI, *] <;> omega), rfl⟩

theorem ret_i64 {a b : Int} (h : a = b) : Ending.returned (.int .i64 a) = .returned (.int .i64 b) := by rw [h]

theorem ordS_lt {a b : ByteArray} (h : Op.bytesLess a.toList b.toList = true) : ordS a b = -1 := by
  rw [ByteArray.toList_eq, ByteArray.toList_eq] at h; exact (less_ord _ _).1 h
theorem ordS_gt {a b : ByteArray} (h : Op.bytesLess a.toList b.toList = false) (h' : (!a.toList == b.toList) = true) : ordS a b = 1 := by
  rw [ByteArray.toList_eq, ByteArray.toList_eq] at h h'; exact (less_ord _ _).2.1 h (by simpa using h')
theorem ordS_eq {a b : ByteArray} (h' : (!a.toList == b.toList) = false) : ordS a b = 0 := by
  rw [ByteArray.toList_eq, ByteArray.toList_eq] at h'; exact (less_ord _ _).2.2 (by simpa using h')

end Go.Proofs.YthbighnkohjfnaaGreatDoor

/-
  CONTRACTS of what hands bytes on to a loop: say, hex, escaped, sayEach.
-/
namespace Go.Proofs.YthbighnkohjfnaaGreatDoor
open Go.RowKit Go.Shelf
attribute [local go_sem] Oper.semAt_some

/-- What lay below n₀, and in block Bt, lies. -/
structure Keeps (n₀ Bt : Nat) (A B : World) : Prop where
  low : Below n₀ A B
  box : B.heap[Bt]? = A.heap[Bt]?
theorem Keeps.refl (n₀ Bt : Nat) (A : World) : Keeps n₀ Bt A A := ⟨Below.refl _ _, rfl⟩
theorem Keeps.trans {n₀ Bt : Nat} {A B C : World} (h : Keeps n₀ Bt A B) (k : Keeps n₀ Bt B C) : Keeps n₀ Bt A C := ⟨h.low.trans k.low, k.box.trans h.box⟩
theorem Keeps.cell {n₀ Bt : Nat} {A B : World} (h : Keeps n₀ Bt A B) (i : Nat) : B.cell? ⟨Bt, i, none⟩ = A.cell? ⟨Bt, i, none⟩ := World.cell?_of_block (w := A) (a := ⟨Bt, i, none⟩) h.box

/-- One round of the loop that is handed bytes: at a byte it goes on (J, and what lay below n₀ and in block Bt lies), or it says 'no more' (Jx). -/
def Hands (l n₀ Bt N : Nat) (J Jx : List UInt8 → World → Prop) : Prop :=
  ∀ m pre x W, J pre W → pre.length < N → YieldAt Fence.wide m Tryz.prog l #[.int .u8 (x : UInt8).toNat] W fun e W' =>
    (e = .returned (.bool true) ∧ J (pre ++ [x]) W' ∧ Keeps n₀ Bt W W') ∨ (e = .returned (.bool false) ∧ Jx (pre ++ [x]) W')

theorem wide_deep (k : Nat) : Fence.wide.depth.isSome = true → 1 ≤ k := fun h => by cases h

theorem take_snoc (s : ByteArray) (k : Nat) (h : k < s.size) : s.data.toList.take (k + 1) = s.data.toList.take k ++ [s[k]] := by
  rw [List.take_succ_eq_append_getElem (by simpa using h)]; rfl

set_option maxRecDepth 100000 in
set_option maxHeartbeats 1000000 in
theorem say_in (l n₀ Bt N : Nat) (J Jx : List UInt8 → World → Prop) (hY : Hands l n₀ Bt N J Jx) (n : Nat) (s : ByteArray) (hs : s.size ≤ maxLen) (pre : List UInt8) (W : World) (hJ : J pre W) (hN : pre.length + s.size ≤ N) :
    CallsIn Fence.wide n Tryz.prog 82 #[.string s, .func (.yield l) #[] #[]] W fun e W' =>
      (e = .returned (.bool true) ∧ J (pre ++ s.data.toList) W' ∧ Keeps n₀ Bt W W') ∨ (e = .returned (.bool false) ∧ ∃ q, q <+: s.data.toList ∧ Jx (pre ++ q) W') := by
  unfold maxLen at hs
  have hl : s.data.toList.length = s.size := Array.length_toList
  refine callsIn_of_wp Tryz.func82 rfl trivial ?_ rfl
  simp only [Tryz.ntmps82, List.size_toArray, List.length_cons, List.length_nil, Nat.reduceAdd, Nat.reduceSub, Array.replicate_succ, Array.replicate_zero, List.push_toArray, List.append_toArray, List.nil_append, List.cons_append]
  gi_wp2
  gi_loopw [8] (fun i wr => ∃ k : Nat, k ≤ s.size ∧ i = .int .i64 k ∧ J (pre ++ s.data.toList.take k) wr ∧ Keeps n₀ Bt W wr) (fun i _ => s.size - (intOf i).toNat)
  case atStart => exact ⟨0, by omega, rfl, by simpa using hJ, Keeps.refl _ _ _⟩
  case round =>
    obtain ⟨k, hk, rfl, hJk, hB⟩ := hrel
    by_cases hlt : k < s.size
    · obtain ⟨fn, tmps, assign, body, hy, hR⟩ := hY (n - 1) _ s[k] wr hJk (by simp; omega)
      gi_wp2
      refine ⟨wide_deep _, ?_⟩
      refine hR.mono ?_
      rintro e W3 (⟨rfl, hJ3, hk3⟩ | ⟨rfl, hJx3⟩)
      · gi_wp2
        go_roundw
        case rel => exact ⟨k + 1, by omega, by go_num, by rw [take_snoc s k hlt, ← List.append_assoc]; exact hJ3, hB.trans hk3⟩
        case measure => simp [intOf]; omega
      · gi_wp2
        go_ret
        exact .inr ⟨rfl, s.data.toList.take k ++ [s[k]], by rw [← take_snoc s k hlt]; exact List.take_prefix _ _, by rw [← List.append_assoc]; exact hJx3⟩
    · obtain rfl : k = s.size := by omega
      gi_wp2
      go_ret
      exact .inl ⟨rfl, by rw [List.take_of_length_le (by omega)] at hJk; exact hJk, hB⟩

theorem conv2 (w : World) (x y : UInt8) : (convert 61 9 (.slice (some ⟨w.heap.size, 0, none⟩) 2 2)).run Tryz.prog ((w.alloc (.cells #[.int .u8 x.toNat, .int .u8 y.toNat] 5)).drew) = .ok (.string ⟨#[x, y]⟩) ((w.alloc (.cells #[.int .u8 x.toNat, .int .u8 y.toNat] 5)).drew) := by
  have h := run_convert_bytes_back (P := Tryz.prog) ((w.alloc (.cells #[.int .u8 x.toNat, .int .u8 y.toNat] 5)).drew) 61 9 5 ⟨w.heap.size, 0, none⟩ 2 [x, y] Tryz.underlying61 Tryz.underlying5 Tryz.underlying9 (fun j hj => by
    match j, hj with
    | 0, _ => go_simp
    | 1, _ => go_simp)
  exact h
theorem conv1 (w : World) (x : UInt8) : (convert 61 9 (.slice (some ⟨w.heap.size, 0, none⟩) 1 1)).run Tryz.prog (w.alloc (.cells #[.int .u8 x.toNat] 5)) = .ok (.string ⟨#[x]⟩) (w.alloc (.cells #[.int .u8 x.toNat] 5)) := by
  have h := run_convert_bytes_back (P := Tryz.prog) (w.alloc (.cells #[.int .u8 x.toNat] 5)) 61 9 5 ⟨w.heap.size, 0, none⟩ 1 [x] Tryz.underlying61 Tryz.underlying5 Tryz.underlying9 (fun j hj => by
    match j, hj with
    | 0, _ => go_simp)
  exact h

theorem dig16 : ∀ (i : Nat) (h : i < 16), (⟨#[48, 49, 50, 51, 52, 53, 54, 55, 56, 57, 97, 98, 99, 100, 101, 102]⟩ : ByteArray)[i]'h = hexD i := by decide +kernel
theorem hex_eq (c : UInt8) {h1 : c.toNat / 16 < 16} {h2 : c.toNat % 16 < 16} : Ending.returned (.string ⟨#[(⟨#[48, 49, 50, 51, 52, 53, 54, 55, 56, 57, 97, 98, 99, 100, 101, 102]⟩ : ByteArray)[c.toNat / 16]'h1, (⟨#[48, 49, 50, 51, 52, 53, 54, 55, 56, 57, 97, 98, 99, 100, 101, 102]⟩ : ByteArray)[c.toNat % 16]'h2]⟩) = .returned (.string ⟨(hexL c).toArray⟩) := by
  rw [dig16 _ h1, dig16 _ h2]; rfl

theorem and15_all : ∀ n : Fin 256, bits BinOp.and IntKind.u8 (n.val : Int) 15 = (n.val : Int) % 16 := by decide +kernel
theorem and15 (c : UInt8) : bits BinOp.and IntKind.u8 (c.toNat : Int) 15 = (c.toNat : Int) % 16 := and15_all ⟨c.toNat, c.toNat_lt⟩

set_option maxRecDepth 100000 in
set_option maxHeartbeats 400000 in
theorem hex_any (c : UInt8) (w : World) :
    Calls Tryz.prog 86 #[.int .u8 c.toNat] w fun e w' => e = .returned (.string ⟨(hexL c).toArray⟩) ∧ Below w.heap.size w w' := by
  have h1 : (0 : Int) ≤ (c.toNat : Int) / 16 := by omega
  have h2 : (c.toNat : Int) / 16 < 16 := by have := c.toNat_lt; omega
  have h3 : (0 : Int) ≤ (c.toNat : Int) % 16 := by omega
  have h4 : (c.toNat : Int) % 16 < 16 := by omega
  have h5 := and15 c
  have hcv := conv2 w
  go_enter Tryz.func86, Tryz.ntmps86
  go_wp2
  go_region
  all_goals go_wp2
  all_goals go_ret
  all_goals exact ⟨hex_eq c, ((Below.refl _ _).alloc (Nat.le_refl _) _).drew⟩

theorem plainB_lo {c : Int} (h : c < 32) : plainB c = false := decide_eq_false (by omega)
theorem plainB_hi {c : Int} (h : 126 < c) : plainB c = false := decide_eq_false (by omega)
theorem plainB_34 {c : Int} (h : c = 34) : plainB c = false := decide_eq_false (by omega)
theorem plainB_92 {c : Int} (h : c = 92) : plainB c = false := decide_eq_false (by omega)
theorem plainB_mk {c : Int} (h1 : ¬ c < 32) (h2 : ¬ 126 < c) (h3 : ¬ c = 34) (h4 : ¬ c = 92) : plainB c = true := decide_eq_true (by omega)
theorem escL_plain {c : UInt8} (h : plainB c.toNat = true) : escL c = [c] := if_pos h
theorem escL_not {c : UInt8} (h : plainB c.toNat = false) : escL c = 92 :: hexL c := if_neg (by simp [h])

theorem cat_bytes (a b : List UInt8) : (⟨a.toArray⟩ : ByteArray) ++ ⟨b.toArray⟩ = ⟨(a ++ b).toArray⟩ := by
  apply ByteArray.ext; simp
theorem cat92 (l : List UInt8) : Ending.returned (.string ((⟨#[92]⟩ : ByteArray) ++ ⟨l.toArray⟩)) = .returned (.string ⟨(92 :: l).toArray⟩) := by
  rw [show (⟨#[92]⟩ : ByteArray) ++ ⟨l.toArray⟩ = ⟨(92 :: l).toArray⟩ from cat_bytes [92] l]

/-- the way of an escape -/
theorem escaped_not (c : UInt8) (w : World) (hp : Hid (plainB c.toNat = false))
    (ht : (c.toNat : Int) < 32 ∨ 126 < (c.toNat : Int) ∨ (c.toNat : Int) = 34 ∨ (c.toNat : Int) = 92) :
    Calls Tryz.prog 87 #[.int .u8 c.toNat] w fun e w' => e = .returned (.string ⟨(escL c).toArray⟩) ∧ Below w.heap.size w w' := by
  have hE : Hid (escL c = 92 :: hexL c) := escL_not hp.out
  by_cases h1 : (c.toNat : Int) < 32
  · clear ht
    go_enter Tryz.func87, Tryz.ntmps87
    go_wp2_with (go_at_call 86; refine (hex_any _ _).mono ?_; rintro e w' ⟨rfl, hb⟩)
    go_ret
    exact ⟨by rw [hE.out]; exact cat92 _, hb⟩
  · by_cases h2 : 126 < (c.toNat : Int)
    · clear ht
      go_enter Tryz.func87, Tryz.ntmps87
      go_wp2_with (go_at_call 86; refine (hex_any _ _).mono ?_; rintro e w' ⟨rfl, hb⟩)
      go_ret
      exact ⟨by rw [hE.out]; exact cat92 _, hb⟩
    · by_cases h3 : (c.toNat : Int) = 34
      · have hb3 : ((c.toNat : Int) == 34) = true := by rw [beq_iff_eq]; exact h3
        clear ht h3
        go_enter Tryz.func87, Tryz.ntmps87
        go_wp2_with (go_at_call 86; refine (hex_any _ _).mono ?_; rintro e w' ⟨rfl, hb⟩)
        go_ret
        exact ⟨by rw [hE.out]; exact cat92 _, hb⟩
      · have hb3 : ((c.toNat : Int) == 34) = false := by rw [beq_eq_false_iff_ne]; exact h3
        have h4 : (c.toNat : Int) = 92 := by omega
        have hb4 : ((c.toNat : Int) == 92) = true := by rw [beq_iff_eq]; exact h4
        clear ht h3 h4
        go_enter Tryz.func87, Tryz.ntmps87
        go_wp2_with (go_at_call 86; refine (hex_any _ _).mono ?_; rintro e w' ⟨rfl, hb⟩)
        go_ret
        exact ⟨by rw [hE.out]; exact cat92 _, hb⟩

set_option maxRecDepth 100000 in
theorem escaped_any (c : UInt8) (w : World) :
    Calls Tryz.prog 87 #[.int .u8 c.toNat] w fun e w' => e = .returned (.string ⟨(escL c).toArray⟩) ∧ Below w.heap.size w w' := by
  by_cases h1 : (c.toNat : Int) < 32
  · exact escaped_not c w (plainB_lo h1) (.inl h1)
  by_cases h2 : 126 < (c.toNat : Int)
  · exact escaped_not c w (plainB_hi h2) (.inr (.inl h2))
  by_cases h3 : (c.toNat : Int) = 34
  · exact escaped_not c w (plainB_34 h3) (.inr (.inr (.inl h3)))
  by_cases h4 : (c.toNat : Int) = 92
  · exact escaped_not c w (plainB_92 h4) (.inr (.inr (.inr h4)))
  have hE : Hid (escL c = [c]) := escL_plain (plainB_mk h1 h2 h3 h4)
  have hcv := conv1 w c
  have hb3 : ((c.toNat : Int) == 34) = false := by rw [beq_eq_false_iff_ne]; exact h3
  have hb4 : ((c.toNat : Int) == 92) = false := by rw [beq_eq_false_iff_ne]; exact h4
  clear h3 h4
  go_enter Tryz.func87, Tryz.ntmps87
  go_wp2
  go_ret
  exact ⟨by rw [hE.out]; rfl, (Below.refl _ _).alloc (Nat.le_refl _) _⟩

end Go.Proofs.YthbighnkohjfnaaGreatDoor

/-
  CONTRACTS of what hands bytes on to a loop: sayEach, with hex and with escaped.
-/
namespace Go.Proofs.YthbighnkohjfnaaGreatDoor
open Go.RowKit Go.Shelf
attribute [local go_sem] Oper.semAt_some

theorem grown_of_below {w w' : World} (h : Below w.heap.size w w') : w.grownBy w' none := ⟨h.os, h.tape, h.output, h.size, fun k hk _ => h.block k hk⟩
theorem abides_below {B : Nat} {J : List UInt8 → World → Prop} (hJ : AbidesFrom B J) {p : List UInt8} {w w' : World} (h : J p w) (hb : Below w.heap.size w w') : J p w' :=
  hJ p w w' none h (grown_of_below hb) (fun r e => by cases e)

/-- what a text becomes, byte by byte -/
def flatL (b : UInt8 → List UInt8) (l : List UInt8) : List UInt8 := l.flatMap b
theorem flatL_snoc (b : UInt8 → List UInt8) (s : ByteArray) (k : Nat) (h : k < s.size) : flatL b (s.data.toList.take (k + 1)) = flatL b (s.data.toList.take k) ++ b s[k] := by
  unfold flatL; rw [take_snoc s k h]; simp
theorem flatL_pre (b : UInt8 → List UInt8) (s : ByteArray) (k : Nat) : flatL b (s.data.toList.take k) <+: flatL b s.data.toList := by
  have h : flatL b s.data.toList = flatL b (s.data.toList.take k) ++ flatL b (s.data.toList.drop k) := by
    unfold flatL; rw [← List.flatMap_append, List.take_append_drop]
  rw [h]; exact List.prefix_append _ _
theorem flatL_len (b : UInt8 → List UInt8) (h : ∀ c, (b c).length ≤ 3) (l : List UInt8) : (flatL b l).length ≤ 3 * l.length := by
  unfold flatL
  induction l with
  | nil => simp
  | cons c r ih => have := h c; simp only [List.flatMap_cons, List.length_append, List.length_cons]; omega
theorem size_mk (l : List UInt8) : (⟨l.toArray⟩ : ByteArray).size = l.length := by simp [ByteArray.size]
theorem three_le : 3 ≤ maxLen := by decide
theorem hexL_len (c : UInt8) : (hexL c).length ≤ 3 := by simp [hexL]
theorem escL_len (c : UInt8) : (escL c).length ≤ 3 := by unfold escL; split <;> simp [hexL]

set_option maxRecDepth 100000 in
set_option maxHeartbeats 2000000 in
theorem sayHex_in (l n₀ Bt N : Nat) (J Jx : List UInt8 → World → Prop) (hY : Hands l n₀ Bt N J Jx) (n B : Nat) (hA : AbidesFrom B J) (o s c : ByteArray) (ho : o.size ≤ maxLen) (hs : s.size ≤ maxLen) (hc : c.size ≤ maxLen) (W : World) (hJ : J [] W)
    (hN : (o.data.toList ++ flatL hexL s.data.toList ++ c.data.toList).length ≤ N) :
    CallsIn Fence.wide n Tryz.prog 85 #[.string o, .string s, .string c, .func (.func 86) #[] #[], .func (.yield l) #[] #[]] W fun e W' => (∃ v, e = .returned v) ∧
      ((J (o.data.toList ++ flatL hexL s.data.toList ++ c.data.toList) W') ∨ (∃ q, q <+: (o.data.toList ++ flatL hexL s.data.toList ++ c.data.toList) ∧ Jx q W')) := by
  have hs' := hs
  unfold maxLen at hs'
  have hl : s.data.toList.length = s.size := Array.length_toList
  have hol : o.data.toList.length = o.size := Array.length_toList
  have hcl : c.data.toList.length = c.size := Array.length_toList
  simp only [List.length_append] at hN
  have hp1 := say_in l n₀ Bt N J Jx hY (n - 1) o ho [] W hJ (by simp; omega)
  refine callsIn_of_wp Tryz.func85 rfl trivial ?_ rfl
  simp only [Tryz.ntmps85, List.size_toArray, List.length_cons, List.length_nil, Nat.reduceAdd, Nat.reduceSub, Array.replicate_succ, Array.replicate_zero, List.push_toArray, List.append_toArray, List.nil_append, List.cons_append]
  gi_wp2_with fail
  refine ⟨trivial, wide_deep _, ?_⟩
  refine hp1.mono ?_
  clear hp1
  rintro e W1 (⟨rfl, hJ1, hB1⟩ | ⟨rfl, q, hq, hx⟩)
  · gi_wp2_with fail
    gi_loopw [17] (fun i wr => ∃ k : Nat, k ≤ s.size ∧ i = .int .i64 k ∧ J (o.data.toList ++ flatL hexL (s.data.toList.take k)) wr) (fun i _ => s.size - (intOf i).toNat)
    case atStart => exact ⟨0, by omega, rfl, by simpa [flatL] using hJ1⟩
    case round =>
      obtain ⟨k, hk, rfl, hJk⟩ := hrel
      by_cases hlt : k < s.size
      · gi_wp2_with fail
        refine ⟨trivial, wide_deep _, ?_⟩
        refine (callsIn_wide.2 (hex_any _ _)).mono ?_
        rintro e W2 ⟨rfl, hb2⟩
        have hJ2 := abides_below hA hJk hb2
        gi_wp2_with fail
        refine ⟨trivial, wide_deep _, ?_⟩
        have hlen : (flatL hexL (s.data.toList.take k)).length + (hexL s[k]).length ≤ (flatL hexL s.data.toList).length := by
          rw [← List.length_append, ← flatL_snoc hexL s k hlt]
          exact (flatL_pre hexL s (k + 1)).length_le
        refine (say_in l n₀ Bt N J Jx hY (n - 1) ⟨(hexL s[k]).toArray⟩ (by rw [size_mk]; exact Nat.le_trans (hexL_len s[k]) three_le) _ _ hJ2 (by
          simp only [List.length_append]
          have := size_mk (hexL s[k])
          omega)).mono ?_
        rintro e W3 (⟨rfl, hJ3, hB3⟩ | ⟨rfl, q, hq, hx⟩)
        · gi_wp2
          go_roundw
          case rel => exact ⟨k + 1, by omega, by go_num, by rw [flatL_snoc hexL s k hlt, ← List.append_assoc]; exact hJ3⟩
          case measure => simp [intOf]; omega
        · gi_wp2
          refine bodyPost_ret (results_none rfl _ _ _) rfl ?_
          refine ⟨⟨_, rfl⟩, .inr ⟨_, ?_, hx⟩⟩
          rw [List.append_assoc, List.append_assoc]
          refine (List.prefix_append_right_inj _).2 ?_
          have h1 : flatL hexL (s.data.toList.take k) ++ q <+: flatL hexL (s.data.toList.take (k + 1)) := by
            rw [flatL_snoc hexL s k hlt]; exact (List.prefix_append_right_inj _).2 hq
          exact (h1.trans (flatL_pre hexL s (k + 1))).trans (List.prefix_append _ _)
      · obtain rfl : k = s.size := by omega
        rw [List.take_of_length_le (by omega)] at hJk
        gi_wp2_with fail
        refine ⟨trivial, wide_deep _, ?_⟩
        refine (say_in l n₀ Bt N J Jx hY (n - 1) c hc _ _ hJk (by simp only [List.length_append]; omega)).mono ?_
        rintro e W3 (⟨rfl, hJ3, hB3⟩ | ⟨rfl, q, hq, hx⟩)
        · gi_wp2
          go_end0
          exact ⟨⟨_, rfl⟩, .inl hJ3⟩
        · gi_wp2
          go_end0
          exact ⟨⟨_, rfl⟩, .inr ⟨_, (List.prefix_append_right_inj _).2 hq, hx⟩⟩
  · gi_wp2_with fail
    refine bodyPost_ret (results_none rfl _ _ _) rfl ?_
    exact ⟨⟨_, rfl⟩, .inr ⟨q, by rw [List.append_assoc]; exact hq.trans (List.prefix_append _ _), by simpa using hx⟩⟩

set_option maxRecDepth 100000 in
set_option maxHeartbeats 2000000 in
theorem sayEsc_in (l n₀ Bt N : Nat) (J Jx : List UInt8 → World → Prop) (hY : Hands l n₀ Bt N J Jx) (n B : Nat) (hA : AbidesFrom B J) (o s c : ByteArray) (ho : o.size ≤ maxLen) (hs : s.size ≤ maxLen) (hc : c.size ≤ maxLen) (W : World) (hJ : J [] W)
    (hN : (o.data.toList ++ flatL escL s.data.toList ++ c.data.toList).length ≤ N) :
    CallsIn Fence.wide n Tryz.prog 85 #[.string o, .string s, .string c, .func (.func 87) #[] #[], .func (.yield l) #[] #[]] W fun e W' => (∃ v, e = .returned v) ∧
      ((J (o.data.toList ++ flatL escL s.data.toList ++ c.data.toList) W') ∨ (∃ q, q <+: (o.data.toList ++ flatL escL s.data.toList ++ c.data.toList) ∧ Jx q W')) := by
  have hs' := hs
  unfold maxLen at hs'
  have hl : s.data.toList.length = s.size := Array.length_toList
  have hol : o.data.toList.length = o.size := Array.length_toList
  have hcl : c.data.toList.length = c.size := Array.length_toList
  simp only [List.length_append] at hN
  have hp1 := say_in l n₀ Bt N J Jx hY (n - 1) o ho [] W hJ (by simp; omega)
  refine callsIn_of_wp Tryz.func85 rfl trivial ?_ rfl
  simp only [Tryz.ntmps85, List.size_toArray, List.length_cons, List.length_nil, Nat.reduceAdd, Nat.reduceSub, Array.replicate_succ, Array.replicate_zero, List.push_toArray, List.append_toArray, List.nil_append, List.cons_append]
  gi_wp2_with fail
  refine ⟨trivial, wide_deep _, ?_⟩
  refine hp1.mono ?_
  clear hp1
  rintro e W1 (⟨rfl, hJ1, hB1⟩ | ⟨rfl, q, hq, hx⟩)
  · gi_wp2_with fail
    gi_loopw [17] (fun i wr => ∃ k : Nat, k ≤ s.size ∧ i = .int .i64 k ∧ J (o.data.toList ++ flatL escL (s.data.toList.take k)) wr) (fun i _ => s.size - (intOf i).toNat)
    case atStart => exact ⟨0, by omega, rfl, by simpa [flatL] using hJ1⟩
    case round =>
      obtain ⟨k, hk, rfl, hJk⟩ := hrel
      by_cases hlt : k < s.size
      · gi_wp2_with fail
        refine ⟨trivial, wide_deep _, ?_⟩
        refine (callsIn_wide.2 (escaped_any _ _)).mono ?_
        rintro e W2 ⟨rfl, hb2⟩
        have hJ2 := abides_below hA hJk hb2
        gi_wp2_with fail
        refine ⟨trivial, wide_deep _, ?_⟩
        have hlen : (flatL escL (s.data.toList.take k)).length + (escL s[k]).length ≤ (flatL escL s.data.toList).length := by
          rw [← List.length_append, ← flatL_snoc escL s k hlt]
          exact (flatL_pre escL s (k + 1)).length_le
        refine (say_in l n₀ Bt N J Jx hY (n - 1) ⟨(escL s[k]).toArray⟩ (by rw [size_mk]; exact Nat.le_trans (escL_len s[k]) three_le) _ _ hJ2 (by
          simp only [List.length_append]
          have := size_mk (escL s[k])
          omega)).mono ?_
        rintro e W3 (⟨rfl, hJ3, hB3⟩ | ⟨rfl, q, hq, hx⟩)
        · gi_wp2
          go_roundw
          case rel => exact ⟨k + 1, by omega, by go_num, by rw [flatL_snoc escL s k hlt, ← List.append_assoc]; exact hJ3⟩
          case measure => simp [intOf]; omega
        · gi_wp2
          refine bodyPost_ret (results_none rfl _ _ _) rfl ?_
          refine ⟨⟨_, rfl⟩, .inr ⟨_, ?_, hx⟩⟩
          rw [List.append_assoc, List.append_assoc]
          refine (List.prefix_append_right_inj _).2 ?_
          have h1 : flatL escL (s.data.toList.take k) ++ q <+: flatL escL (s.data.toList.take (k + 1)) := by
            rw [flatL_snoc escL s k hlt]; exact (List.prefix_append_right_inj _).2 hq
          exact (h1.trans (flatL_pre escL s (k + 1))).trans (List.prefix_append _ _)
      · obtain rfl : k = s.size := by omega
        rw [List.take_of_length_le (by omega)] at hJk
        gi_wp2_with fail
        refine ⟨trivial, wide_deep _, ?_⟩
        refine (say_in l n₀ Bt N J Jx hY (n - 1) c hc _ _ hJk (by simp only [List.length_append]; omega)).mono ?_
        rintro e W3 (⟨rfl, hJ3, hB3⟩ | ⟨rfl, q, hq, hx⟩)
        · gi_wp2
          go_end0
          exact ⟨⟨_, rfl⟩, .inl hJ3⟩
        · gi_wp2
          go_end0
          exact ⟨⟨_, rfl⟩, .inr ⟨_, (List.prefix_append_right_inj _).2 hq, hx⟩⟩
  · gi_wp2_with fail
    refine bodyPost_ret (results_none rfl _ _ _) rfl ?_
    exact ⟨⟨_, rfl⟩, .inr ⟨q, by rw [List.append_assoc]; exact hq.trans (List.prefix_append _ _), by simpa using hx⟩⟩

end Go.Proofs.YthbighnkohjfnaaGreatDoor
