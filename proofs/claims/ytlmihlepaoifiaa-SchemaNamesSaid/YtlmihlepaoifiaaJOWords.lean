import Derived.Below
import Derived.Laws.Strings
import Derived.Test.YtlmihlepaoifiaaProg
import Derived.WalkKit
import Derived.WalkSpells
import Derived.WalkLawsBesides
import Derived.Lib.Hide
import Derived.LoopTactic
import Derived.Deep.LoopGhost
import Derived.Laws.BitsAllLaws
import Derived.OwnWalk
import Derived.Laws.IdiomStrings
import Derived.Laws.OwnMore
import Derived.Lib.SmallJoins
import Derived.Lib.BufferRead
/-
  PLAIN FUNCTIONS (no program): which bytes are letters, digits, of a word; which values may be; how two stand.
-/
namespace Go.Proofs.Ytlmihlepaoifiaa
open Go.RowKit

def lowI (c : Int) : Bool := decide (97 ≤ c ∧ c ≤ 122)
def digI (c : Int) : Bool := decide (48 ≤ c ∧ c ≤ 57)
def inwI (c : Int) : Bool := lowI c || digI c || (c == 46) || (c == 95) || (c == 45) || (c == 47)

/-- may bytes be a word? -/
def wordL : List UInt8 → Bool
  | [] => false
  | c :: r => decide (r.length < 64) && lowI c.toNat && r.all (fun x => inwI x.toNat)
def wordB (s : ByteArray) : Bool := wordL s.data.toList

/-- may a value be? -/
def mayB (k n : Int) (s : ByteArray) : Bool :=
  if k = 1 ∨ k = 6 then decide (s.size = 0)
  else if k = 2 then decide (s.size = 0) && decide (n = 0 ∨ n = 1)
  else if k = 3 ∨ k = 4 then decide (n = 0) && decide (s.size ≤ 1000)
  else if k = 5 then decide (s.size = 0) && decide (0 ≤ n ∧ n < 9007199254740992)
  else if k = 7 then decide (n = 0) && wordB s
  else false

/-- how two numbers stand -/
def ordI (a b : Int) : Int := if a < b then -1 else if b < a then 1 else 0
/-- how two texts stand, byte by byte -/
def ordL : List UInt8 → List UInt8 → Int
  | [], [] => 0
  | [], _ :: _ => -1
  | _ :: _, [] => 1
  | x :: l, y :: r => if x.toNat < y.toNat then -1 else if y.toNat < x.toNat then 1 else ordL l r
def ordS (a b : ByteArray) : Int := ordL a.data.toList b.data.toList
/-- how two values stand -/
def ordV (k n : Int) (s : ByteArray) (k' n' : Int) (s' : ByteArray) : Int :=
  if ordI k k' = 0 then (if ordI n n' = 0 then ordS s s' else ordI n n') else ordI k k'

theorem drop_at (s : ByteArray) (k : Nat) (h : k < s.size) : s.data.toList.drop k = s[k] :: s.data.toList.drop (k + 1) := by
  rw [List.drop_eq_getElem_cons (by simpa using h)]; rfl
theorem drop_end (s : ByteArray) (k : Nat) (h : s.size ≤ k) : s.data.toList.drop k = [] := by
  rw [List.drop_eq_nil_iff]; simpa using h

theorem u8_eq {x y : UInt8} (h1 : ¬ x.toNat < y.toNat) (h2 : ¬ y.toNat < x.toNat) : x = y := UInt8.toNat_inj.1 (by omega)

theorem less_ord : ∀ (l r : List UInt8), (Op.bytesLess l r = true → ordL l r = -1) ∧ (Op.bytesLess l r = false → (l == r) = false → ordL l r = 1) ∧ (l = r → ordL l r = 0)
  | [], [] => by simp [Op.bytesLess, ordL]
  | [], _ :: _ => by simp [Op.bytesLess, ordL]
  | _ :: _, [] => by simp [Op.bytesLess, ordL]
  | x :: l, y :: r => by
    have ih := less_ord l r
    simp only [Op.bytesLess, ordL]
    by_cases h1 : x.toNat < y.toNat
    · have h1' : x < y := UInt8.lt_iff_toNat_lt.2 h1
      simp only [h1, h1', if_true, decide_true, Bool.true_or]
      refine ⟨fun _ => by simp, fun h => by simp at h, fun h => ?_⟩
      cases h; omega
    · have h1' : ¬ x < y := fun h => h1 (UInt8.lt_iff_toNat_lt.1 h)
      by_cases h2 : y.toNat < x.toNat
      · have hne : (x == y) = false := by
          rw [beq_eq_false_iff_ne]; intro e; subst e; omega
        simp only [h1, h1', h2, hne, if_true, if_false, decide_false, Bool.false_or, Bool.false_and]
        refine ⟨fun h => by simp at h, fun _ _ => by simp, fun h => ?_⟩
        cases h; omega
      · obtain rfl := u8_eq h1 h2
        simp only [h1, h1', if_false, decide_false, Bool.false_or, beq_self_eq_true, Bool.true_and]
        refine ⟨ih.1, fun h h' => ih.2.1 h ?_, fun h => ih.2.2 (by simpa using h)⟩
        simpa using h'

theorem ord_self (l : List UInt8) : ordL l l = 0 := (less_ord l l).2.2 rfl

theorem ordL_range : ∀ (l r : List UInt8), ordL l r = -1 ∨ ordL l r = 0 ∨ ordL l r = 1
  | [], [] => by simp [ordL]
  | [], _ :: _ => by simp [ordL]
  | _ :: _, [] => by simp [ordL]
  | x :: l, y :: r => by
    have := ordL_range l r
    simp only [ordL]
    split
    · exact .inl rfl
    · split
      · exact .inr (.inr rfl)
      · exact this

theorem ordI_range (a b : Int) : ordI a b = -1 ∨ ordI a b = 0 ∨ ordI a b = 1 := by
  unfold ordI; split
  · exact .inl rfl
  · split
    · exact .inr (.inr rfl)
    · exact .inr (.inl rfl)
theorem ordI_zero {a b : Int} : ordI a b = 0 ↔ a = b := by
  unfold ordI; split
  · constructor <;> intro h <;> first | omega | (subst h; omega)
  · split
    · constructor <;> intro h <;> first | omega | (subst h; omega)
    · constructor <;> intro h <;> omega

end Go.Proofs.Ytlmihlepaoifiaa

/-
  PLAIN FUNCTIONS (no program): bytes of numbers, values, keys; how they stand.
-/
namespace Go.Proofs.Ytlmihlepaoifiaa
open Go.RowKit

theorem ordL_cons (x y : UInt8) (l r : List UInt8) : ordL (x :: l) (y :: r) = if x.toNat < y.toNat then -1 else if y.toNat < x.toNat then 1 else ordL l r := by rw [ordL]
theorem ordL_zero {l r : List UInt8} : ordL l r = 0 ↔ l = r := by
  constructor
  · intro h
    have h1 := less_ord l r
    cases hb : Op.bytesLess l r with
    | true => have := h1.1 hb; omega
    | false =>
      cases he : (l == r) with
      | false => have := h1.2.1 hb he; omega
      | true => exact eq_of_beq he
  · rintro rfl; exact ord_self l

/-- a part of a key -/
structure PartP where
  v : Bool
  n : Int
  k : Int
  m : Int
  s : ByteArray
end Go.Proofs.Ytlmihlepaoifiaa

/-
  CONTRACTS of the smallest functions: one byte in, a bool out; three orders.
-/
namespace Go.Proofs.Ytlmihlepaoifiaa
open Go.RowKit

theorem ret_bool {a b : Bool} (h : a = b) : Ending.returned (.bool a) = .returned (.bool b) := by rw [h]

set_option maxHeartbeats 400000 in
theorem isLetter_any (c : Int) (w : World) :
    Calls Try.prog 100 #[.int .u8 c] w fun e w' => e = .returned (.bool (lowI c)) ∧ w = w' := by
  by_cases h1 : 97 ≤ c
  · go_enter Try.func100, Try.ntmps100
    go_wp2
    go_ret
    exact ⟨ret_bool (by simp [lowI] <;> omega), rfl⟩
  · go_enter Try.func100, Try.ntmps100
    go_wp2
    go_ret
    exact ⟨ret_bool (by simp [lowI] <;> omega), rfl⟩

set_option maxHeartbeats 800000 in
theorem inWord_any (c : Int) (w : World) :
    Calls Try.prog 101 #[.int .u8 c] w fun e w' => e = .returned (.bool (inwI c)) ∧ w = w' := by
  go_enter Try.func101, Try.ntmps101
  go_wp2_with (go_at_call 100; refine (isLetter_any _ _).mono ?_; rintro e w' ⟨rfl, rfl⟩)
  all_goals go_ret
  all_goals exact ⟨ret_bool (by simp [inwI, digI, *] <;> omega), rfl⟩

theorem ret_i64 {a b : Int} (h : a = b) : Ending.returned (.int .i64 a) = .returned (.int .i64 b) := by rw [h]

set_option maxHeartbeats 400000 in
theorem cmpInt_any (a b : Int) (w : World) :
    Calls Try.prog 62 #[.int .i64 a, .int .i64 b] w fun e w' => e = .returned (.int .i64 (ordI a b)) ∧ w = w' := by
  go_enter Try.func62, Try.ntmps62
  go_wp2
  all_goals go_ret
  all_goals exact ⟨ret_i64 (by unfold ordI; split <;> (try split) <;> omega), rfl⟩

set_option maxHeartbeats 400000 in
theorem cmpI64_any (a b : Int) (w : World) :
    Calls Try.prog 51 #[.int .i64 a, .int .i64 b] w fun e w' => e = .returned (.int .i64 (ordI a b)) ∧ w = w' := by
  go_enter Try.func51, Try.ntmps51
  go_wp2
  all_goals go_ret
  all_goals exact ⟨ret_i64 (by unfold ordI; split <;> (try split) <;> omega), rfl⟩

theorem ordS_lt {a b : ByteArray} (h : Op.bytesLess a.toList b.toList = true) : ordS a b = -1 := by
  rw [ByteArray.toList_eq, ByteArray.toList_eq] at h; exact (less_ord _ _).1 h
theorem ordS_gt {a b : ByteArray} (h : Op.bytesLess a.toList b.toList = false) (h' : (!a.toList == b.toList) = true) : ordS a b = 1 := by
  rw [ByteArray.toList_eq, ByteArray.toList_eq] at h h'; exact (less_ord _ _).2.1 h (by simpa using h')
theorem ordS_eq {a b : ByteArray} (h' : (!a.toList == b.toList) = false) : ordS a b = 0 := by
  rw [ByteArray.toList_eq, ByteArray.toList_eq] at h'; exact (less_ord _ _).2.2 (by simpa using h')

set_option maxHeartbeats 400000 in
theorem cmpStr_any (a b : ByteArray) (w : World) :
    Calls Try.prog 63 #[.string a, .string b] w fun e w' => e = .returned (.int .i64 (ordS a b)) ∧ w = w' := by
  go_enter Try.func63, Try.ntmps63
  go_wp2
  all_goals go_ret
  · exact ⟨ret_i64 (by rw [ordS_lt ‹_›]), rfl⟩
  · exact ⟨ret_i64 (by rw [ordS_gt ‹_› ‹_›]), rfl⟩
  · exact ⟨ret_i64 (by rw [ordS_eq ‹_›]), rfl⟩

end Go.Proofs.Ytlmihlepaoifiaa

/-
  CONTRACTS: eight (a number's bytes in an array).
-/
namespace Go.Proofs.Ytlmihlepaoifiaa
open Go.RowKit

theorem results_cell_only {fn : Func} {p : Tmp} {ty : TypeId} (h : fn.results = #[.cell p ty]) (tmps : Array Value) (P : Program) (w : World) :
    (results fn tmps).run P w = ((asAddr (tmps.getD p undef)).run P w).andThen fun a w₁ => (loadVar ty a).run P w₁ := by
  simp only [results, h]
  simp [Sem.run_bind]

end Go.Proofs.Ytlmihlepaoifiaa

/-
  WORDS FOR SLICES OF BYTES: a row of the call's own; what an append leaves.
-/
namespace Go.Proofs.Ytlmihlepaoifiaa
open Go.RowKit

/-- bytes as cells -/
def cellsL (l : List UInt8) : List Value := l.map (fun c : UInt8 => Value.int .u8 c.toNat)
/-- a slice of bytes in blocks from B on, which the call has to itself -/
def OwnB (W : World) (B : Nat) (v : Value) (l : List UInt8) : Prop := W.ownsRow B 5 1 v l.length (cellsL l)
theorem OwnB.next {W W' : World} {B : Nat} {v : Value} {l : List UInt8} (h : OwnB W B v l) (hb : Below W.heap.size W W') : OwnB W' B v l := by
  refine World.ownsRow.kept (row := none) h ⟨hb.os, hb.tape, hb.output, hb.size, fun k hk _ => hb.block k hk⟩ ?_
  rcases h.2 with ⟨rfl, _⟩ | ⟨g, cap, cur, rfl, _, _⟩
  · exact .inl rfl
  · exact .inr (by simp [Value.ownBlock])
theorem OwnB.alloc {W : World} {B : Nat} {v : Value} {l : List UInt8} (h : OwnB W B v l) (o : Obj) : OwnB (W.alloc o) B v l := World.ownsRow.alloc h o
/-- a block of another type is none of such a row's -/
theorem blk_own {W : World} {b B : Nat} {t : TypeId} {cs : Array Value} {fr : Nat × Nat} {v : Value} {l : List UInt8} (hb : W.heap[b]? = some (.cells cs t fr)) (ht : t ≠ 5) (h : OwnB W B v l) : some b ≠ v.ownBlock := by
  rcases h.2 with ⟨rfl, _⟩ | ⟨g, cap, cur, rfl, _, hgb, _⟩
  · simp [Value.ownBlock]
  · intro e
    have e2 : b = g := by simpa [Value.ownBlock] using e
    subst e2
    rw [hb] at hgb
    injection hgb with hgb
    injection hgb with _ hgb _
    exact ht hgb
theorem add0 (b j : Nat) : (⟨b, 0, none⟩ : Addr).add j = ⟨b, j, none⟩ := by unfold Addr.add; split <;> simp_all
/-- the cells of a new block -/
theorem cell_lit (W : World) (cs : Array Value) (t : TypeId) (j : Nat) (u : Value) (h : cs.toList[j]? = some u) : (W.alloc (.cells cs t)).cell? ((⟨W.heap.size, 0, none⟩ : Addr).add j) = some u := by
  rw [add0]
  simp only [World.cell?, heap_alloc_new]
  simpa using h
end Go.Proofs.Ytlmihlepaoifiaa
