/-
  CONTRACT: the document's Place.
-/
import Derived.Test.YthbighnkohjfnaaGreatDoorJTCur
namespace Go.Proofs.YthbighnkohjfnaaGreatDoor
open Go.RowKit

theorem posL_step {l : Bs} {j : Nat} {c : UInt8} (h : l[j]? = some c) (p : Nat × Nat) : posL (l.take (j + 1)) p = if c = 10 then ((posL (l.take j) p).1 + 1, 1) else ((posL (l.take j) p).1, (posL (l.take j) p).2 + 1) := by
  rw [List.take_add_one, h, posL_append]
  rfl
set_option maxRecDepth 100000 in
set_option maxHeartbeats 1000000 in
theorem refPlace_any (s : ByteArray) (at_ : Nat) (w : World) (hs : s.size ≤ 50000) (ha : at_ ≤ s.size) :
    Calls Tryz.prog 21 #[.string s, .int .i64 (at_ : Int)] w fun e w' => e = .returned (.tuple #[.int .i64 ((posL (s.data.toList.take at_) (1, 1)).1 : Int), .int .i64 ((posL (s.data.toList.take at_) (1, 1)).2 : Int)]) ∧ w = w' := by
  go_enter Tryz.func21, Tryz.ntmps21
  go_wp2
  go_loopg [6, 7, 8] at_ (fun g x y z wr => ∃ j a b : Nat, x = .int .i64 (a : Int) ∧ y = .int .i64 (b : Int) ∧ z = .int .i64 (j : Int) ∧ j + g = at_ ∧ a ≤ 60000 ∧ b ≤ 60000 ∧ wr = w ∧ Hid (posL (s.data.toList.take j) (1, 1) = (a, b)))
  case atStart => exact ⟨0, 1, 1, rfl, rfl, rfl, by omega, by decide, by decide, rfl, rfl⟩
  case round =>
    obtain ⟨j, a, b, rfl, rfl, rfl, hj, hA, hB, rfl, HP⟩ := hrel
    cases gk with
    | zero =>
      have hji : decide ((j : Int) < (at_ : Int)) = false := decide_eq_false (by omega)
      obtain rfl : j = at_ := by omega
      go_wp2
      go_ret2
      exact ⟨by rw [HP.out]; rfl, rfl⟩
    | succ g =>
      have hjn : j < s.size := by omega
      have hji : decide ((j : Int) < (at_ : Int)) = true := decide_eq_true (by omega)
      have hjs : decide ((j : Int) < (s.size : Int)) = true := decide_eq_true (by omega)
      have hj2 : (j : Int) < (s.size : Int) := by omega
      have hget : s.data.toList[j]? = some s[j] := by rw [List.getElem?_eq_getElem (by simpa using hjn)]; rfl
      have HST := Lib.hid (posL_step hget (1, 1))
      have hle := posL_le (s.data.toList.take (j + 1)) (1, 1) (Nat.le_refl _)
      have hlt : (s.data.toList.take (j + 1)).length ≤ 50000 := by rw [List.length_take, Array.length_toList]; have h1 : s.data.size = s.size := rfl; omega
      have HLE := Lib.hid (And.intro hle hlt)
      clear hget hle hlt
      by_cases he : s[j] = 10
      · have hei : ((s[j].toNat : Int) == 10) = true := by rw [he]; rfl
        have HN : Hid (posL (s.data.toList.take (j + 1)) (1, 1) = (a + 1, 1)) := by show _ = _; rw [HST.out, if_pos he, HP.out]
        have ha1 : a + 1 ≤ 60000 := by have := HLE.out; rw [HN.out] at this; simp only at this; omega
        clear he
        go_wp2
        go_roundg g
        case measure => omega
        case rel => exact ⟨j + 1, a + 1, 1, by go_num, rfl, by go_num, by omega, ha1, by decide, rfl, HN⟩
      · have hei : ((s[j].toNat : Int) == 10) = false := by
          rw [beq_eq_false_iff_ne]
          intro e
          exact he (UInt8.toNat_inj.1 (by show s[j].toNat = 10; omega))
        have HN : Hid (posL (s.data.toList.take (j + 1)) (1, 1) = (a, b + 1)) := by show _ = _; rw [HST.out, if_neg he, HP.out]
        have hb1 : b + 1 ≤ 60000 := by have := HLE.out; rw [HN.out] at this; simp only at this; omega
        clear he
        go_wp2
        go_roundg g
        case measure => omega
        case rel => exact ⟨j + 1, a, b + 1, rfl, by go_num, by go_num, by omega, hA, hb1, rfl, HN⟩
end Go.Proofs.YthbighnkohjfnaaGreatDoor
