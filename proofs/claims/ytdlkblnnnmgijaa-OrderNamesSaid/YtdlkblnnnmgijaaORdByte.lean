/-
  CONTRACTS: readByte (the program's), number (the document's).
-/
import Derived.Test.YtdlkblnnnmgijaaORdNum
import Derived.Test.YtdlkblnnnmgijaaORefN
namespace Go.Proofs.Ytdlkblnnnmgijaa
open Go.RowKit Go.Shelf

theorem add_zero' (a : Addr) : a.add 0 = a := by
  obtain ⟨b, o, sp⟩ := a
  simp [Addr.add]
/-- What readByte answers. -/
def ByteRd (W : World) (B : Nat) (l : List UInt8) (e : Ending) (w' : World) : Prop :=
  (∃ d t r, l = d :: t ∧ e = .returned (.tuple #[.int .i64 (d.toNat : Int), r, .bool true]) ∧ Rest w' B r t ∧ Below W.heap.size W w') ∨
  (l = [] ∧ e = .returned (.tuple #[.int .i64 0, .slice none 0 0, .bool false]) ∧ Below W.heap.size W w')
theorem byteRd_yes {W w' : World} {B : Nat} {d : UInt8} {t : List UInt8} {r : Value} {n : Int} (hn : n = (d.toNat : Int)) (hr : Rest w' B r t) (hb : Below W.heap.size W w') : ByteRd W B (d :: t) (.returned (.tuple #[.int .i64 n, r, .bool true])) w' := .inl ⟨d, t, r, rfl, by rw [hn], hr, hb⟩
theorem byteRd_no {W w' : World} {B : Nat} (hb : Below W.heap.size W w') : ByteRd W B [] (.returned (.tuple #[.int .i64 0, .slice none 0 0, .bool false])) w' := .inr ⟨rfl, rfl, hb⟩

set_option maxRecDepth 100000 in
set_option maxHeartbeats 1000000 in
theorem readByte_any (A : Option Addr) (c : Nat) (l : List UInt8) (W : World) (B : Nat) (hB : B ≤ W.heap.size) (hs : SlB W B A l) (hlc : l.length ≤ c) (hc : c ≤ maxLen) :
    Calls Try.prog 123 #[.slice A l.length c] W (ByteRd W B l) := by
  have hcm := hc
  unfold maxLen at hc
  go_enter Try.func123, Try.ntmps123
  cases l with
  | nil =>
    go_wp2
    go_ret3
    exact byteRd_no (Below.refl _ _)
  | cons d t =>
    obtain ⟨a, rfl, hal, hcells⟩ := hs (by simp)
    have HSL := Lib.hid hs
    have k0 : W.cell? a = some (.int .u8 d.toNat) := by have := hcells 0 d rfl; rwa [add_zero'] at this
    clear hcells hs
    have HW : Hid (wrap64 (d.toNat : Int) = (d.toNat : Int)) := by
      show _ = _
      have := d.toNat_lt
      simp only [wrap64]; omega
    by_cases hc1 : c = 1
    · have HR : Hid (Rest W B (.slice (some a) t.length 0) t) := rest_at HSL.out hlc hcm 1 hc1
      go_wp2
      go_quiet (fail)
      go_wp2
      go_ret3
      exact byteRd_yes HW.out (HR.out.next (below_dn (Below.refl W.heap.size W) _) hB) (below_dn (Below.refl _ _) _)
    · have HR : Hid (Rest W B (.slice (some ⟨a.block, a.off + 1, none⟩) t.length (c - 1)) t) := rest_on HSL.out hlc hcm 1 hc1
      go_wp2
      go_quiet (fail)
      go_wp2
      go_ret3
      exact byteRd_yes HW.out (HR.out.next (below_dn (Below.refl W.heap.size W) _) hB) (below_dn (Below.refl _ _) _)

set_option maxRecDepth 100000 in
set_option maxHeartbeats 1000000 in
theorem refNum_any (A : Option Addr) (c : Nat) (l : List UInt8) (W : World) (B : Nat) (hs : SlB W B A l) (_hlc : l.length ≤ c) (h8 : 8 ≤ l.length) :
    Calls Try.prog 60 #[.slice A l.length c] W fun e w' => e = .returned (.int .i64 (numR l)) ∧ w' = W := by
  obtain ⟨a, rfl, hal, hcells⟩ := hs (by intro e; rw [e] at h8; simp at h8)
  have HC := Lib.hid hcells
  clear hcells hs hal
  go_enter Try.func60, Try.ntmps60
  go_wp2
  go_loopg [3, 4] 8 (fun g x y wr => ∃ (i V : Nat), x = .int .u64 (V : Int) ∧ y = .int .i64 i ∧ i + g = 8 ∧ Hid (V = horN (l.take i)) ∧ wr = W)
  case atStart => exact ⟨0, 0, rfl, rfl, rfl, rfl, rfl⟩
  case round =>
    obtain ⟨i, V, rfl, rfl, hi8, HV, rfl⟩ := hrel
    have h9 : gk = 0 ∨ 0 < gk := by omega
    rcases h9 with rfl | hgp
    · have hi7 : i = 8 := by omega
      subst hi7
      have hVlt : V < 18446744073709551616 := by rw [HV.out]; exact horN_hi l
      have HNR : Hid (numR l = (V : Int) - 9223372036854775808) := by show _ = _; rw [HV.out]; rfl
      have htr : IntKind.i64.wrap (IntKind.u64.wrap ((V : Int) - 9223372036854775808)) = (V : Int) - 9223372036854775808 := by
        rw [IntKind.wrap_u64, IntKind.wrap_i64]; omega
      go_wp2
      go_ret
      exact ⟨ret_i64 (by first | rw [HNR.out] | rw [HNR.out, htr]), rfl⟩
    · obtain ⟨g, rfl⟩ : ∃ g, gk = g + 1 := ⟨gk - 1, by omega⟩
      have hi7 : i < 8 := by omega
      have hi9 : (i : Int) < 8 := by omega
      have hil : i < l.length := by omega
      have hV7 : V < 72057594037927936 := by rw [HV.out]; exact horN_lo l i hi7
      have HST : Hid (V * 256 + l[i].toNat = horN (l.take (i + 1))) := by show _ = _; rw [horN_take l i hil, ← HV.out]
      have k0 := HC.out i _ (List.getElem?_eq_getElem hil)
      obtain ⟨cc, hcc⟩ : ∃ cc, l[i] = cc := ⟨_, rfl⟩
      rw [hcc] at k0 HST
      have hcl := cc.toNat_lt
      clear hcc
      go_wp2
      go_roundg g
      case measure => omega
      case rel => exact ⟨i + 1, V * 256 + cc.toNat, u64_val (by first | omega | (simp only [IntKind.wrap_u64]; omega)), by go_num, by omega, HST.out, rfl⟩
end Go.Proofs.Ytdlkblnnnmgijaa
