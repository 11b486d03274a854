/-
  CONTRACT: the tokens told of a text (the iterator told$1).
-/
import Derived.RangeFuncBox
import Derived.Shelf.Abstract
import Derived.Shelf.RegionOpen
import Derived.OwnWalkIn
import Derived.TacticsInMore
import Derived.LoopNIn
import Derived.LoopIn
import Derived.Laws.EntriesVeiled
import Derived.Test.YthbighnkohjfnaaGreatDoorJTRdr
namespace Go.Proofs.YthbighnkohjfnaaGreatDoor
open Go.RowKit Go.Shelf
attribute [local go_sem] Oper.semAt_some

theorem wide_deepT (k : Nat) : Fence.wide.depth.isSome = true → 1 ≤ k := fun h => by cases h
theorem abides_toT {α : Type} {B : Nat} {J : List α → World → Prop} (hJ : AbidesFrom B J) {p : List α} {w w' : World} (h : J p w) (hb : Below w.heap.size w w') : J p w' :=
  hJ p w w' none h ⟨hb.os, hb.tape, hb.output, hb.size, fun k hk _ => hb.block k hk⟩ (fun r e => by cases e)
/-- a token: its kind, its bytes, its place -/
abbrev Tk := Int × ByteArray × (Nat × Nat)
def encT (x : Tk) : Array Value := #[.agg #[.int .i64 x.1, .string x.2.1, .int .i64 (x.2.2.1 : Int), .int .i64 (x.2.2.2 : Int)]]
/-- blanks -/
def blkS : ByteArray := ⟨#[32, 9, 10, 13]⟩
/-- what may stand behind a word -/
def bhdS : ByteArray := ⟨#[32, 9, 10, 13, 40, 41, 91, 93, 123, 125, 59]⟩
/-- what may not stand behind a word does -/
def badB (k : Int) : Bs → Bool
  | [] => false
  | b :: _ => k == 0 && !inB bhdS b
/-- the tokens that are told of a text -/
def tellB : Nat → ByteArray → Nat × Nat → List Tk
  | 0, _, _ => []
  | f + 1, s, p => match s.data.toList with
    | [] => [(3, ⟨#[]⟩, p)]
    | c :: r => if c = 59 then tellB f (s.extract ((c :: r).takeWhile (fun b => b != 10)).length s.size) (posL ((c :: r).take ((c :: r).takeWhile (fun b => b != 10)).length) p)
      else if inB blkS c then tellB f (s.extract (begP (inB blkS) (c :: r)) s.size) (posL ((c :: r).take (begP (inB blkS) (c :: r))) p)
      else if (measL (c :: r)).1 = 4 then [(4, ⟨#[]⟩, posL ((c :: r).take (measL (c :: r)).2) p)]
      else ((measL (c :: r)).1, s.extract 0 (measL (c :: r)).2, p) ::
        if badB (measL (c :: r)).1 ((c :: r).drop (measL (c :: r)).2) then [(4, ⟨#[]⟩, posL ((c :: r).take (measL (c :: r)).2) p)]
        else tellB f (s.extract (measL (c :: r)).2 s.size) (posL ((c :: r).take (measL (c :: r)).2) p)
theorem tellB_nil {f : Nat} {s : ByteArray} {p : Nat × Nat} (h : s.data.toList = []) : tellB (f + 1) s p = [(3, ⟨#[]⟩, p)] := by
  rw [tellB, h]
theorem tellB_rem {f : Nat} {s : ByteArray} {p : Nat × Nat} {r : Bs} (h : s.data.toList = 59 :: r) : tellB (f + 1) s p = tellB f (s.extract (s.data.toList.takeWhile (fun b => b != 10)).length s.size) (posL (s.data.toList.take (s.data.toList.takeWhile (fun b => b != 10)).length) p) := by
  rw [tellB, h]
  exact if_pos rfl
theorem tellB_blk {f : Nat} {s : ByteArray} {p : Nat × Nat} {c : UInt8} {r : Bs} (h : s.data.toList = c :: r) (h1 : c ≠ 59) (h2 : inB blkS c = true) : tellB (f + 1) s p = tellB f (s.extract (begP (inB blkS) s.data.toList) s.size) (posL (s.data.toList.take (begP (inB blkS) s.data.toList)) p) := by
  rw [tellB, h]
  exact (if_neg h1).trans (if_pos h2)
theorem tellB_flt {f : Nat} {s : ByteArray} {p : Nat × Nat} {c : UInt8} {r : Bs} (h : s.data.toList = c :: r) (h1 : c ≠ 59) (h2 : inB blkS c = false) (h3 : (measL s.data.toList).1 = 4) : tellB (f + 1) s p = [(4, ⟨#[]⟩, posL (s.data.toList.take (measL s.data.toList).2) p)] := by
  rw [h] at h3
  rw [tellB, h]
  exact (if_neg h1).trans ((if_neg (by rw [h2]; exact Bool.false_ne_true)).trans (if_pos h3))
theorem tellB_tok {f : Nat} {s : ByteArray} {p : Nat × Nat} {c : UInt8} {r : Bs} (h : s.data.toList = c :: r) (h1 : c ≠ 59) (h2 : inB blkS c = false) (h3 : (measL s.data.toList).1 ≠ 4) : tellB (f + 1) s p = ((measL s.data.toList).1, s.extract 0 (measL s.data.toList).2, p) ::
    if badB (measL s.data.toList).1 (s.data.toList.drop (measL s.data.toList).2) then [(4, ⟨#[]⟩, posL (s.data.toList.take (measL s.data.toList).2) p)]
    else tellB f (s.extract (measL s.data.toList).2 s.size) (posL (s.data.toList.take (measL s.data.toList).2) p) := by
  rw [h] at h3
  rw [tellB, h]
  exact (if_neg h1).trans ((if_neg (by rw [h2]; exact Bool.false_ne_true)).trans (if_neg h3))
/-- what a told token is -/
def TkOk (x : Tk) : Prop := (x.1 = 0 ∨ x.1 = 1 ∨ x.1 = 2 ∨ x.1 = 3 ∨ x.1 = 4) ∧ x.2.1.size ≤ 50000 ∧ (x.1 = 1 → ∃ c, x.2.1.data.toList = [c] ∧ (openC c).isSome = true) ∧ (x.1 = 2 → ∃ c, x.2.1.data.toList = [c] ∧ closeC c = true) ∧ x.2.2.1 ≤ 100000 ∧ x.2.2.2 ≤ 100000
theorem meas_ok {s : ByteArray} {c : UInt8} {r : Bs} (h : s.data.toList = c :: r) (hs : s.size ≤ 50000) {p : Nat × Nat} (hp1 : p.1 ≤ 100000) (hp2 : p.2 ≤ 100000) (h4 : (measL s.data.toList).1 ≠ 4) : TkOk ((measL s.data.toList).1, s.extract 0 (measL s.data.toList).2, p) ∧ 0 < (measL s.data.toList).2 := by
  have hl : s.data.toList.length = s.size := by simp
  have hle := measL_le s.data.toList
  have hz := ext0_size s (measL s.data.toList).2 (by omega)
  have hkd := measL_kind s.data.toList
  refine ⟨⟨by rcases hkd with e | e | e | e <;> simp [e], by show (s.extract 0 _).size ≤ _; omega, fun e => ?_, fun e => ?_, hp1, hp2⟩, ?_⟩
  · replace e : (measL s.data.toList).1 = 1 := e
    show ∃ c, (s.extract 0 _).data.toList = _ ∧ _
    rw [ext0_list]
    rw [h] at e ⊢
    rw [measL_cons] at e ⊢
    by_cases h1 : (openC c).isSome = true
    · rw [if_pos h1]; exact ⟨c, rfl, h1⟩
    rw [if_neg h1] at e
    by_cases h2 : closeC c = true
    · rw [if_pos h2] at e; cases e
    rw [if_neg h2] at e
    cases hw : wordN (c :: r) with
    | none => rw [hw] at e; cases e
    | some n => rw [hw] at e; cases n <;> cases e
  · replace e : (measL s.data.toList).1 = 2 := e
    show ∃ c, (s.extract 0 _).data.toList = _ ∧ _
    rw [ext0_list]
    rw [h] at e ⊢
    rw [measL_cons] at e ⊢
    by_cases h1 : (openC c).isSome = true
    · rw [if_pos h1] at e; cases e
    rw [if_neg h1] at e ⊢
    by_cases h2 : closeC c = true
    · rw [if_pos h2]; exact ⟨c, rfl, h2⟩
    rw [if_neg h2] at e
    cases hw : wordN (c :: r) with
    | none => rw [hw] at e; cases e
    | some n => rw [hw] at e; cases n <;> cases e
  · rw [h] at h4 ⊢
    rw [measL_cons] at h4 ⊢
    by_cases h1 : (openC c).isSome = true
    · rw [if_pos h1]; exact Nat.one_pos
    rw [if_neg h1] at h4 ⊢
    by_cases h2 : closeC c = true
    · rw [if_pos h2]; exact Nat.one_pos
    rw [if_neg h2] at h4 ⊢
    cases hw : wordN (c :: r) with
    | none => rw [hw] at h4; exact absurd rfl h4
    | some n =>
      rw [hw] at h4
      cases n with
      | zero => exact absurd rfl h4
      | succ n => exact Nat.succ_pos n
end Go.Proofs.YthbighnkohjfnaaGreatDoor
