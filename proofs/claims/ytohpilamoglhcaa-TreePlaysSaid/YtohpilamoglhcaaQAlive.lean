/-
  CONTRACTS: told, of, alive (the statements' own).
-/
import Derived.Test.YtohpilamoglhcaaQMet2
import Derived.Test.YtohpilamoglhcaaQArgs
import Derived.Lib.SlBytesConst
import Derived.Lib.ConvBytes
namespace Go.Proofs.Ytohpilamoglhcaa
open Go.RowKit

def toldE (p : Pr) (is : Bool) (k x : ByteArray) : Bool := is && (p.1 == k.data.toList) && (p.2 == x.data.toList)
theorem convSB (w : World) (s : ByteArray) : ∃ c W', (convert 9 57 (.string s)).run Try.prog w = .ok (.slice (some ⟨w.heap.size, 0, none⟩) s.size c) W' ∧ Below w.heap.size w W' ∧ SlB W' W'.heap.size (some ⟨w.heap.size, 0, none⟩) s.data.toList := by
  refine ⟨_, _, Lib.run_convert_string_bytes w _ _ 5 s Try.underlying9 Try.underlying57 Try.underlying5, ⟨rfl, rfl, rfl, by rw [Lib.bytesWorld_size]; omega, fun k hk => Lib.bytesWorld_at_old w _ s k hk⟩, fun _ => ⟨_, rfl, by rw [Lib.bytesWorld_size]; exact Nat.lt_succ_self _, fun j x hx => ?_⟩⟩
  have hj : j < s.size := (List.getElem?_eq_some_iff.1 hx).1
  rw [add0, Lib.bytesWorld_cell w _ s j hj, List.getD_eq_getElem?_getD, hx]
  rfl
theorem lit_at (w : World) (d : UInt8) (v : Value) (hv : v = .int .u8 d.toNat) : SlB (w.alloc (.cells #[v] 5)) (w.alloc (.cells #[v] 5)).heap.size (some ⟨w.heap.size, 0, none⟩) [d] := fun _ => by
  subst hv
  refine ⟨_, rfl, by rw [World.size_alloc]; exact Nat.lt_succ_self _, fun j x hx => ?_⟩
  cases j with
  | zero =>
    have hx2 : d = x := by simpa using hx
    subst hx2
    rw [add0]
    simp only [World.cell?, heap_alloc_new]
    rfl
  | succ j => simp at hx
def DabEnd [LT Gb] (w : World) (e : Ending) (w' : World) : Prop := ∃ u, e = .returned (.pointer u) ∧ TreeV w' (.pointer u) [([97], [49]), ([98], [50]), ([100], [52])] ∧ Below w.heap.size w w'
def dabL (j : Nat) : List Pr := if j = 0 then [] else if j = 1 then [([100], [52])] else if j = 2 then [([97], [49]), ([100], [52])] else [([97], [49]), ([98], [50]), ([100], [52])]
theorem lit_mark (w : World) (d : UInt8) (m : Nat × Nat) : SlB (w.alloc (.cells #[.int .u8 d.toNat] 5 m)) (w.alloc (.cells #[.int .u8 d.toNat] 5 m)).heap.size (some ⟨w.heap.size, 0, none⟩) [d] := fun _ => by
  refine ⟨_, rfl, by rw [World.size_alloc]; exact Nat.lt_succ_self _, fun j x hx => ?_⟩
  cases j with
  | zero =>
    have hx2 : d = x := by simpa using hx
    subst hx2
    rw [add0]
    simp only [World.cell?, heap_alloc_new]
    rfl
  | succ j => simp at hx
theorem prV_open {w : World} {B : Nat} {v : Value} {p : Pr} (h : PrV w B v p) : ∃ A c A' c', v = .agg #[.slice A p.1.length c, .slice A' p.2.length c'] ∧ SlB w w.heap.size A p.1 ∧ SlB w w.heap.size A' p.2 := by
  obtain ⟨A, c, A', c', M, e, h1, h2, _⟩ := h
  exact ⟨A, c, A', c', e, (SlB.of_own h1).2, (SlB.of_own h2).2⟩
end Go.Proofs.Ytohpilamoglhcaa
