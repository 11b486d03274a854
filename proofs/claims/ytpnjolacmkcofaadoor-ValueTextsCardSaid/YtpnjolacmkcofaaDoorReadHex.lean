/-
  CONTRACTS of what reads a text: readHex.
-/
import Derived.Test.YtpnjolacmkcofaaDoorText
import Derived.Deep.QuietTactic
import Derived.BigQuiet
namespace Go.Proofs.YtpnjolacmkcofaaDoor
open Go.RowKit Go.Shelf

/-- the place of a byte among the digits of sixteen, or -1 -/
def hexI (c : UInt8) : Int := Lib.indexByte [48, 49, 50, 51, 52, 53, 54, 55, 56, 57, 97, 98, 99, 100, 101, 102] c
theorem hexI_all : ∀ n : Fin 256, -1 ≤ hexI (UInt8.ofNat n.val) ∧ hexI (UInt8.ofNat n.val) ≤ 15 := by decide +kernel
theorem hexI_range (c : UInt8) : -1 ≤ hexI c ∧ hexI c ≤ 15 := by
  have h := hexI_all ⟨c.toNat, c.toNat_lt⟩
  simpa using h
theorem hexI_hexD : ∀ n : Nat, n < 16 → hexI (hexD n) = n := by decide +kernel

theorem ixb (c : UInt8) (w : World) : Calls Tryd.prog 60 #[.string ⟨#[48, 49, 50, 51, 52, 53, 54, 55, 56, 57, 97, 98, 99, 100, 101, 102]⟩, .int .u8 c.toNat] w fun e w' => e = .returned (.int .i64 (hexI c)) ∧ w' = w := by
  have h := Tryd.strings_IndexByte ⟨#[48, 49, 50, 51, 52, 53, 54, 55, 56, 57, 97, 98, 99, 100, 101, 102]⟩ c.toNat w
  have e : ((c.toNat : Int)).toNat.toUInt8 = c := by simp
  rw [e] at h
  exact h

/-- the byte that two places make -/
def joinB (x y : Int) : UInt8 := UInt8.ofNat (bits BinOp.or IntKind.i64 (x * 16) y % 256).toNat
theorem joinB_nat (x y : Int) : ((joinB x y).toNat : Int) = bits BinOp.or IntKind.i64 (x * 16) y % 256 := by
  unfold joinB
  generalize bits BinOp.or IntKind.i64 (x * 16) y = z
  have h1 : 0 ≤ z % 256 := Int.emod_nonneg _ (by decide)
  have h2 : z % 256 < 256 := Int.emod_lt_of_pos _ (by decide)
  rw [UInt8.toNat_ofNat']
  omega
/-- what readHex reads -/
def rhL : List UInt8 → UInt8 × Bool
  | a :: b :: _ => (joinB (hexI a) (hexI b), decide (0 ≤ hexI a) && decide (0 ≤ hexI b))
  | _ => (0, false)
theorem rh_all : ∀ n : Fin 256, joinB (hexI (hexD (n.val / 16))) (hexI (hexD (n.val % 16))) = UInt8.ofNat n.val ∧ decide (0 ≤ hexI (hexD (n.val / 16))) = true ∧ decide (0 ≤ hexI (hexD (n.val % 16))) = true := by decide +kernel
theorem rhL_hexL (c : UInt8) (r : List UInt8) : rhL (hexL c ++ r) = (c, true) := by
  obtain ⟨h1, h2, h3⟩ := rh_all ⟨c.toNat, c.toNat_lt⟩
  show (joinB (hexI (hexD (c.toNat / 16))) (hexI (hexD (c.toNat % 16))), decide (0 ≤ hexI (hexD (c.toNat / 16))) && decide (0 ≤ hexI (hexD (c.toNat % 16)))) = (c, true)
  simp only at h1 h2 h3
  rw [h1, h2, h3]
  simp
theorem rhL_two (s : ByteArray) (h : 2 ≤ s.size) : rhL s.data.toList = (joinB (hexI s[0]) (hexI s[1]), decide (0 ≤ hexI s[0]) && decide (0 ≤ hexI s[1])) := by
  have h0 := drop_at s 0 (by omega)
  have h1 := drop_at s 1 (by omega)
  rw [List.drop_zero] at h0
  rw [h0, h1]; rfl
theorem rhL_short (s : ByteArray) (h : s.size < 2) : rhL s.data.toList = (0, false) := by
  have hl : s.data.toList.length = s.size := Array.length_toList
  match h2 : s.data.toList with
  | [] => rfl
  | [_] => rfl
  | a :: b :: r => rw [h2] at hl; simp at hl; omega
theorem rhL_ok {l : List UInt8} (h : (rhL l).2 = true) : 2 ≤ l.length := by
  match l with
  | [] => simp [rhL] at h
  | [_] => simp [rhL] at h
  | a :: b :: r => simp

def RhEnd (s : ByteArray) (e : Ending) : Prop := e = .returned (.tuple #[.int .u8 (rhL s.data.toList).1.toNat, .bool (rhL s.data.toList).2])
theorem rhEnd_mk {s : ByteArray} {x y : Int} {a : Int} {b : Bool} (h : 2 ≤ s.size) (hx : hexI s[0] = x) (hy : hexI s[1] = y) (ha : a = bits BinOp.or IntKind.i64 (x * 16) y % 256) (hb : b = (decide (0 ≤ x) && decide (0 ≤ y))) : RhEnd s (.returned (.tuple #[.int .u8 a, .bool b])) := by
  unfold RhEnd
  rw [rhL_two s h, hx, hy]
  simp only
  rw [joinB_nat, ha, hb]
  rfl

set_option maxRecDepth 100000 in
set_option maxHeartbeats 1000000 in
theorem readHex_any (s : ByteArray) (w : World) (hs : s.size ≤ maxLen) :
    Calls Tryd.prog 52 #[.string s] w fun e w' => RhEnd s e ∧ Below w.heap.size w w' := by
  unfold maxLen at hs
  by_cases h2 : 2 ≤ s.size
  · have hh := hexI_range s[0]
    have hl := hexI_range s[1]
    obtain ⟨x, hx⟩ : ∃ x, hexI s[0] = x := ⟨_, rfl⟩
    obtain ⟨y, hy⟩ : ∃ y, hexI s[1] = y := ⟨_, rfl⟩
    rw [hx] at hh
    rw [hy] at hl
    have c1 := fun w => ixb s[0] w
    have c2 := fun w => ixb s[1] w
    rw [hx] at c1
    rw [hy] at c2
    have C1 := Lib.hid c1
    have C2 := Lib.hid c2
    have HX := Lib.hid hx
    have HY := Lib.hid hy
    clear hx hy c1 c2
    obtain ⟨x1, x2⟩ := hh
    obtain ⟨y1, y2⟩ := hl
    have h3 : ¬ (s.size : Int) < 2 := by omega
    have h4 : (0 : Int) < (s.size : Int) := by omega
    have h5 : (1 : Int) < (s.size : Int) := by omega
    have h6 : 0 < s.size := by omega
    have h7 : 1 < s.size := by omega
    go_enter Tryd.func52, Tryd.ntmps52
    go_wp2
    go_quiet (first | (go_at_call 60; exact Calls.quiet_of_same (C1.out _)) | (go_at_call 60; exact Calls.quiet_of_same (C2.out _)))
    go_wp2
    · go_ret2
      exact ⟨rhEnd_mk h2 HX.out HY.out rfl (by have : 0 ≤ x := ‹0 ≤ x›; simp [this]), ⟨rfl, rfl, rfl, Nat.le_refl _, fun _ _ => rfl⟩⟩
    · go_ret2
      exact ⟨rhEnd_mk h2 HX.out HY.out rfl (by have : ¬ 0 ≤ x := by (have : x < 0 := ‹x < 0›); omega
                                               simp [this]), ⟨rfl, rfl, rfl, Nat.le_refl _, fun _ _ => rfl⟩⟩
  · have h3 : (s.size : Int) < 2 := by omega
    have hE : Hid (RhEnd s (.returned (.tuple #[.int .u8 0, .bool false]))) := by
      show RhEnd s _
      unfold RhEnd; rw [rhL_short s (by omega)]; rfl
    clear h2
    go_enter Tryd.func52, Tryd.ntmps52
    go_wp2
    go_ret2
    exact ⟨hE.out, Below.refl _ _⟩

end Go.Proofs.YtpnjolacmkcofaaDoor
