/-
  CONTRACTS: what appends a number, a text, a value; the bytes of a number, a value.
-/
import Derived.Test.YtkoknogefmfmnaaOWords
import Derived.Maps.AppendAt
import Derived.Test.YtkoknogefmfmnaaMay
namespace Go.Proofs.Ytkoknogefmfmnaa
open Go.RowKit

theorem app_mk {W w' : World} {B : Nat} {l : List UInt8} {v' : Value} (h : w'.ownsRow B 5 1 v' l.length (cellsL l)) (hb : Below B W w') : App W B l (.returned v') w' := ⟨v', rfl, h, hb⟩

set_option maxRecDepth 100000 in
set_option maxHeartbeats 1000000 in
theorem appendNumber_any (B : Nat) (b : Value) (l : List UInt8) (n : Int) (W : World) (hown : OwnB W B b l) (hl : l.length ≤ 40000) (hB : B ≤ W.heap.size) (h0 : -9223372036854775808 ≤ n) (h1 : n ≤ 9223372036854775807) :
    Calls Try.prog 64 #[b, .int .i64 n] W (App W B (l ++ numB n)) := by
  obtain ⟨i0, hi, hz0, hz1, hz2⟩ := info_parts info8
  have hmx : 50000 ≤ maxLen := by decide
  have HO := Lib.hid hown
  clear hown
  obtain ⟨c0, c1, c2, c3, c4, c5, c6, c7, hc⟩ : ∃ c0 c1 c2 c3 c4 c5 c6 c7 : UInt8, numB n = [c0, c1, c2, c3, c4, c5, c6, c7] := ⟨_, _, _, _, _, _, _, _, rfl⟩
  have HC := Lib.hid hc
  have h8 := fun W => eight_any n h0 h1 W
  rw [hc] at h8
  simp only [List.map_cons, List.map_nil] at h8
  have H8 := Lib.hid h8
  clear hc h8
  go_enter Try.func64, Try.ntmps64
  go_wp2_with fail
  refine (H8.out _).mono ?_
  rintro e w1 ⟨rfl, hb1⟩
  have HB1 := Lib.hid hb1
  clear hb1
  go_wp2_with (at_builtin; refine wpList_append_own _ rfl _ _ 39 rfl B 5 i0 (.int .u8 0) 1 1 Try.underlying39 hi hz0 hz1 hz2 rfl (by decide) _ _ _ rfl ((HO.out.next HB1.out).alloc _) ⟨w1.heap.size, 0, none⟩ 8 8 (cellsL [c0, c1, c2, c3, c4, c5, c6, c7]) rfl rfl (fun j u h => cell_lit _ _ _ j u h) (cellsL_one _) (by omega) (by omega) (by have := HB1.out.size; simp; omega) ?_; intro v' w3 hown' hgrow _)
  go_ret
  refine app_mk (by rw [HC.out]; rw [← cellsL_app] at hown'; simpa [Nat.add_assoc] using hown') ?_
  exact ((HB1.out.mono hB).alloc (by have := HB1.out.size; omega) _).trans (below_own ((HO.out.next HB1.out).alloc _) hgrow (by have := HB1.out.size; simp; omega))

/-- each byte of a text, 0 with 255 behind it -/
def zeroL : List UInt8 → List UInt8
  | [] => []
  | c :: r => if c = 0 then 0 :: 255 :: zeroL r else c :: zeroL r
theorem strB_zero : ∀ l : List UInt8, strB l = zeroL l ++ [0, 1]
  | [] => rfl
  | c :: r => by
    unfold strB zeroL
    rw [strB_zero r]
    split <;> rfl
theorem zeroL_app : ∀ (a b : List UInt8), zeroL (a ++ b) = zeroL a ++ zeroL b
  | [], b => rfl
  | c :: a, b => by
    simp only [List.cons_append, zeroL]
    rw [zeroL_app a b]
    split <;> rfl
theorem zeroL_len : ∀ l : List UInt8, (zeroL l).length ≤ 2 * l.length
  | [] => by simp [zeroL]
  | c :: r => by
    have := zeroL_len r
    unfold zeroL
    split <;> simp <;> omega
theorem take_one (s : ByteArray) (k : Nat) (h : k < s.size) : s.data.toList.take (k + 1) = s.data.toList.take k ++ [s[k]] := by
  rw [List.take_succ_eq_append_getElem (by simpa using h)]; rfl
theorem zeroL_snoc (s : ByteArray) (k : Nat) (h : k < s.size) : zeroL (s.data.toList.take (k + 1)) = zeroL (s.data.toList.take k) ++ (if s[k] = 0 then [0, 255] else [s[k]]) := by
  rw [take_one s k h, zeroL_app]
  congr 1
theorem zeroL_take (s : ByteArray) (k : Nat) : (zeroL (s.data.toList.take k)).length ≤ 2 * s.size := by
  have h1 := zeroL_len (s.data.toList.take k)
  have h2 : (s.data.toList.take k).length ≤ s.data.toList.length := List.length_take_le' k _
  have h3 : s.data.toList.length = s.size := Array.length_toList
  omega
theorem zeroL_all (s : ByteArray) (k : Nat) (h : s.size ≤ k) : strB s.data.toList = zeroL (s.data.toList.take k) ++ [0, 1] := by
  rw [strB_zero, List.take_of_length_le (by simpa using h)]

set_option maxRecDepth 100000 in
set_option maxHeartbeats 2000000 in
theorem appendString_any (B : Nat) (b : Value) (l : List UInt8) (s : ByteArray) (W : World) (hown : OwnB W B b l) (hl : l.length ≤ 20000) (hB : B ≤ W.heap.size) (hs : s.size ≤ 5000) :
    Calls Try.prog 96 #[b, .string s] W (App W B (l ++ strB s.data.toList)) := by
  obtain ⟨i0, hi, hz0, hz1, hz2⟩ := info_parts info8
  have hmx : 50000 ≤ maxLen := by decide
  go_enter Try.func96, Try.ntmps96
  go_wp2
  go_loopg [0, 5, 8] s.size (fun g x y z wr => ∃ (i : Nat) (v : Value), x = v ∧ z = .int .i64 i ∧ i + g = s.size ∧ OwnB wr B v (l ++ zeroL (s.data.toList.take i)) ∧ Hid (Below B W wr) ∧ B ≤ wr.heap.size)
  case atStart => exact ⟨0, b, rfl, rfl, by omega, by simpa [zeroL] using hown, Below.refl _ _, hB⟩
  case round =>
    obtain ⟨i, v, rfl, rfl, hi2, hrow, HB, hBr⟩ := hrel
    clear hown hB
    have hlen : (l ++ zeroL (s.data.toList.take i)).length ≤ 30000 := by
      rw [List.length_append]
      have := zeroL_take s i
      omega
    have HR := Lib.hid hrow
    clear hrow
    cases gk with
    | zero =>
      have hiz : ¬ ((i : Int) < (s.size : Int)) := by omega
      have HZ := Lib.hid (zeroL_all s i (by omega))
      go_wp2_with (at_builtin; refine wpList_append_own _ rfl _ _ 39 rfl B 5 i0 (.int .u8 0) 1 1 Try.underlying39 hi hz0 hz1 hz2 rfl (by decide) _ _ _ rfl (HR.out.alloc _) ⟨wr.heap.size, 0, none⟩ 2 2 (cellsL [0, 1]) rfl rfl (fun j u h => cell_lit _ _ _ j u h) (cellsL_one _) (by omega) (by omega) (by simp; omega) ?_; intro v' w3 hown' hgrow _)
      go_ret
      refine app_mk (by rw [HZ.out, ← List.append_assoc]; rw [← cellsL_app] at hown'; simpa [Nat.add_assoc] using hown') ?_
      exact (HB.out.alloc hBr _).trans (below_own (HR.out.alloc _) hgrow (by simp; omega))
    | succ g =>
      have hiz : (i : Int) < (s.size : Int) := by omega
      have hin : i < s.size := by omega
      have HS := Lib.hid (zeroL_snoc s i hin)
      by_cases hc : s[i] = 0
      · have hcc : ((s[i].toNat : Int) == 0) = true := by rw [hc]; rfl
        have HC := Lib.hid hc
        have tok : True := trivial
        clear hc
        go_wp2_with (first
          | (at_builtin; have _t := tok; refine wpList_append_own _ rfl _ _ 39 rfl B 5 i0 (.int .u8 0) 1 1 Try.underlying39 hi hz0 hz1 hz2 rfl (by decide) _ _ _ rfl (HR.out.alloc _) ⟨wr.heap.size, 0, none⟩ 1 1 (cellsL [s[i]]) rfl rfl (fun j u h => cell_lit _ _ _ j u h) (cellsL_one _) (by omega) (by omega) (by simp; omega) ?_; intro v' w3 hown' hgrow _; have HR3 : Hid (OwnB w3 B v' (l ++ zeroL (s.data.toList.take i) ++ [s[i]])) := (by show World.ownsRow _ _ _ _ _ _ _; rw [← cellsL_app] at hown'; simpa [Nat.add_assoc] using hown'); have HB3 := Lib.hid ((HB.out.alloc hBr _).trans (below_own (HR.out.alloc _) hgrow (by simp; omega))); have hsz3 : B ≤ w3.heap.size := (by have := hgrow.size; simp at this; omega); clear tok hown' hgrow)
          | (at_builtin; refine wpList_append_own _ rfl _ _ 39 rfl B 5 i0 (.int .u8 0) 1 1 Try.underlying39 hi hz0 hz1 hz2 rfl (by decide) _ _ _ rfl (HR3.out.alloc _) ⟨w3.heap.size, 0, none⟩ 1 1 (cellsL [255]) rfl rfl (fun j u h => cell_lit _ _ _ j u h) (cellsL_one _) (by simp at hlen ⊢; omega) (by simp at hlen ⊢; omega) (by simp; omega) ?_; intro v'' w4 hown'' hgrow' _))
        go_roundg g
        case measure => omega
        case rel => exact ⟨i + 1, v'', rfl, by go_num, by omega, (by rw [HS.out, HC.out]; rw [← cellsL_app, HC.out] at hown''; show World.ownsRow _ _ _ _ _ _ _; simpa [Nat.add_assoc] using hown''), HB3.out.trans ((Below.refl _ _).alloc hsz3 _ |>.trans (below_own (HR3.out.alloc _) hgrow' (by simp; omega))), by have := hgrow'.size; simp at this; omega⟩
      · have hcc : ((s[i].toNat : Int) == 0) = false := by
          rw [beq_eq_false_iff_ne]
          intro e
          exact hc (UInt8.toNat_inj.1 (by show s[i].toNat = 0; omega))
        have HC := Lib.hid hc
        clear hc
        go_wp2_with (at_builtin; refine wpList_append_own _ rfl _ _ 39 rfl B 5 i0 (.int .u8 0) 1 1 Try.underlying39 hi hz0 hz1 hz2 rfl (by decide) _ _ _ rfl (HR.out.alloc _) ⟨wr.heap.size, 0, none⟩ 1 1 (cellsL [s[i]]) rfl rfl (fun j u h => cell_lit _ _ _ j u h) (cellsL_one _) (by omega) (by omega) (by simp; omega) ?_; intro v' w3 hown' hgrow _)
        go_roundg g
        case measure => omega
        case rel => exact ⟨i + 1, v', rfl, by go_num, by omega, (by rw [HS.out, if_neg HC.out]; rw [← cellsL_app] at hown'; show World.ownsRow _ _ _ _ _ _ _; simpa [Nat.add_assoc] using hown'), (HB.out.alloc hBr _).trans (below_own (HR.out.alloc _) hgrow (by simp; omega)), by have := hgrow.size; simp at this; omega⟩
end Go.Proofs.Ytkoknogefmfmnaa
