/-
  CONTRACTS: appendValue; the bytes of a number, a value.
-/
import Derived.Test.YtdjdlfndmeegnaaDoorOApp
import Derived.Deep.CutBlock
namespace Go.Proofs.YtdjdlfndmeegnaaDoor
open Go.RowKit

/-- a value's own block -/
def ValAt (W : World) (b : Nat) (k n : Int) (s : ByteArray) : Prop := W.heap[b]? = some (.cells #[.int .i64 k, .int .i64 n, .string s] 23 (0, 0))
theorem ValAt.c0 {W : World} {b : Nat} {k n : Int} {s : ByteArray} (h : ValAt W b k n s) : W.cell? ⟨b, 0, none⟩ = some (.int .i64 k) := by unfold ValAt at h; simp [World.cell?, h]
theorem ValAt.c1 {W : World} {b : Nat} {k n : Int} {s : ByteArray} (h : ValAt W b k n s) : W.cell? ⟨b, 1, none⟩ = some (.int .i64 n) := by unfold ValAt at h; simp [World.cell?, h]
theorem ValAt.c2 {W : World} {b : Nat} {k n : Int} {s : ByteArray} (h : ValAt W b k n s) : W.cell? ⟨b, 2, none⟩ = some (.string s) := by unfold ValAt at h; simp [World.cell?, h]
theorem valAt_new (W : World) (k n : Int) (s : ByteArray) : ValAt (W.alloc (.cells #[.int .i64 k, .int .i64 n, .string s] 23)) W.heap.size k n s := heap_alloc_new W _
theorem ValAt.lt {W : World} {b : Nat} {k n : Int} {s : ByteArray} (h : ValAt W b k n s) : b < W.heap.size := (Array.getElem?_eq_some_iff.1 h).1
theorem ValAt.grown {W W' : World} {b B : Nat} {k n : Int} {s : ByteArray} {v : Value} {l : List UInt8} (h : ValAt W b k n s) (ho : OwnB W B v l) (hg : W.grownBy W' v.ownBlock) : ValAt W' b k n s :=
  (hg.block b h.lt (blk_own h (by decide) ho)).trans h
theorem ValAt.next {W W' : World} {b B : Nat} {k n : Int} {s : ByteArray} (h : ValAt W b k n s) (hb : Below B W W') (hB : b < B) : ValAt W' b k n s := (hb.block b hB).trans h
theorem ValAt.alloc {W : World} {b : Nat} {k n : Int} {s : ByteArray} (h : ValAt W b k n s) (o : Obj) : ValAt (W.alloc o) b k n s := (Below.heap_alloc W o b h.lt).trans h

end Go.Proofs.YtdjdlfndmeegnaaDoor
