/-
  CONTRACTS: what appends a number, a text, a value; the bytes of a number, a value.
-/
import Derived.Test.YthdjlaombbeagaaOWords
import Derived.Maps.AppendAt
import Derived.Test.YthdjlaombbeagaaMay
namespace Go.Proofs.Ythdjlaombbeagaa
open Go.RowKit

theorem app_mk {W w' : World} {B : Nat} {l : List UInt8} {v' : Value} (h : w'.ownsRow B 5 1 v' l.length (cellsL l)) (hb : Below B W w') : App W B l (.returned v') w' := ⟨v', rfl, h, hb⟩

/-- each byte of a text, 0 with 255 behind it -/
def zeroL : List UInt8 → List UInt8
  | [] => []
  | c :: r => if c = 0 then 0 :: 255 :: zeroL r else c :: zeroL r
theorem strB_zero : ∀ l : List UInt8, strB l = zeroL l ++ [0, 1]
  | [] => rfl
  | c :: r => by
    unfold strB zeroL
    rw [strB_zero r]
    split <;> rfl
theorem zeroL_app : ∀ (a b : List UInt8), zeroL (a ++ b) = zeroL a ++ zeroL b
  | [], b => rfl
  | c :: a, b => by
    simp only [List.cons_append, zeroL]
    rw [zeroL_app a b]
    split <;> rfl
theorem zeroL_len : ∀ l : List UInt8, (zeroL l).length ≤ 2 * l.length
  | [] => by simp [zeroL]
  | c :: r => by
    have := zeroL_len r
    unfold zeroL
    split <;> simp <;> omega
theorem take_one (s : ByteArray) (k : Nat) (h : k < s.size) : s.data.toList.take (k + 1) = s.data.toList.take k ++ [s[k]] := by
  rw [List.take_succ_eq_append_getElem (by simpa using h)]; rfl
theorem zeroL_snoc (s : ByteArray) (k : Nat) (h : k < s.size) : zeroL (s.data.toList.take (k + 1)) = zeroL (s.data.toList.take k) ++ (if s[k] = 0 then [0, 255] else [s[k]]) := by
  rw [take_one s k h, zeroL_app]
  congr 1
theorem zeroL_take (s : ByteArray) (k : Nat) : (zeroL (s.data.toList.take k)).length ≤ 2 * s.size := by
  have h1 := zeroL_len (s.data.toList.take k)
  have h2 : (s.data.toList.take k).length ≤ s.data.toList.length := List.length_take_le' k _
  have h3 : s.data.toList.length = s.size := Array.length_toList
  omega
theorem zeroL_all (s : ByteArray) (k : Nat) (h : s.size ≤ k) : strB s.data.toList = zeroL (s.data.toList.take k) ++ [0, 1] := by
  rw [strB_zero, List.take_of_length_le (by simpa using h)]

end Go.Proofs.Ythdjlaombbeagaa
