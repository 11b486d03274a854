/-
  CONTRACT: the document's Alter.
-/
import Derived.Test.YtikbpcfoagineaaAKey
import Derived.Deep.LoopGhost
import Derived.Deep.Draws
import Derived.BigQuiet
import Derived.Lib.Hide
namespace Go.Proofs.Ytikbpcfoagineaa
open Go.RowKit

set_option maxRecDepth 100000 in
set_option maxHeartbeats 4000000 in
theorem refAlter_any (A A' : Option Addr) (c c' : Nat) (l r : List Att) (w : World) (B : Nat) (hs : SlA w B A l) (hs' : SlA w B A' r) (hl : l.length ≤ 1000) (hr : r.length ≤ 1000) :
    Calls Try.prog 19 #[.slice A l.length c, .slice A' r.length c'] w fun e w' => e = .returned (.int .i64 (altN l r)) ∧ ∃ n, w' = w.drewN n := by
  have HS := Lib.hid hs
  have HS' := Lib.hid hs'
  clear hs hs'
  go_enter Try.func19, Try.ntmps19
  go_wp2
  go_loopg [5, 6, 7] l.length (fun g x _ _ wr => ∃ j n : Nat, x = .int .i64 j ∧ j + g = l.length ∧ Hid (altB (l.drop j) r = altB l r) ∧ wr = w.drewN n)
  case atStart => exact ⟨0, 0, rfl, by omega, by rw [List.drop_zero]; rfl, rfl⟩
  case round =>
    obtain ⟨j, n, rfl, hj, HJ, rfl⟩ := hrel
    cases gk with
    | zero =>
      have hji : ¬ (j : Int) < (l.length : Int) := by omega
      have HE : Hid (altN l r = 0) := by
        show _ = _
        have := HJ.out
        rw [List.drop_eq_nil_of_le (by omega)] at this
        unfold altN
        rw [← this]
        rfl
      go_wp2
      go_ret
      exact ⟨by rw [HE.out]; rfl, n, rfl⟩
    | succ g =>
      have hji : (j : Int) < (l.length : Int) := by omega
      have hjn : j < l.length := by omega
      obtain ⟨b, o, rfl, _, hp⟩ := HS.out.at_ hjn
      have hd : altB (l.drop j) r = ((r.any fun a => sameA a l[j]) && altB (l.drop (j + 1)) r) := by rw [List.drop_eq_getElem_cons hjn]; rfl
      obtain ⟨y, hy⟩ : ∃ y, l[j] = y := ⟨_, rfl⟩
      rw [hy] at hp hd
      have HD := Lib.hid hd
      have y0 := hp.c0
      have y1 := hp.c1
      have y2 := hp.c2
      clear hp hy hd
      go_wp2
      go_loopg [6, 7] r.length (fun g2 f x wr => ∃ (k n2 : Nat) (fb : Bool), f = .bool fb ∧ x = .int .i64 k ∧ k + g2 = r.length ∧ Hid (fb = (r.take k).any fun a => sameA a y) ∧ wr = w.drewN n2)
      case atStart => exact ⟨0, n, false, rfl, rfl, by omega, rfl, rfl⟩
      case round =>
        obtain ⟨k, n2, fb, rfl, rfl, hk, HF, rfl⟩ := hrel
        cases gk with
        | zero =>
          have hki : ¬ (k : Int) < (r.length : Int) := by omega
          have hF : fb = r.any fun a => sameA a y := by have := HF.out; rwa [List.take_of_length_le (by omega)] at this
          cases fb with
          | true =>
            have HN : Hid (altB (l.drop (j + 1)) r = altB l r) := by
              show _ = _
              rw [← HJ.out, HD.out, ← hF, Bool.true_and]
            clear hF
            go_wp2
            go_roundg g
            case measure => omega
            case rel => exact ⟨j + 1, n2, by go_num, by omega, HN, rfl⟩
          | false =>
            have HN : Hid (altN l r = 77) := by
              show _ = _
              unfold altN
              rw [← HJ.out, HD.out, ← hF]
              rfl
            clear hF
            go_wp2
            go_ret
            exact ⟨by rw [HN.out]; rfl, n2, rfl⟩
        | succ g2 =>
          have hki : (k : Int) < (r.length : Int) := by omega
          have hkn : k < r.length := by omega
          obtain ⟨b', o', rfl, _, hq⟩ := HS'.out.at_ hkn
          have ht : ((r.take (k + 1)).any fun a => sameA a y) = (fb || sameA r[k] y) := by
            rw [List.take_add_one, List.any_append, ← HF.out]
            simp [List.getElem?_eq_getElem hkn]
          obtain ⟨x, hx⟩ : ∃ x, r[k] = x := ⟨_, rfl⟩
          rw [hx] at hq ht
          have x0 := hq.c0
          have x1 := hq.c1
          have x2 := hq.c2
          have HT := Lib.hid ht
          clear hq hx ht
          cases fb with
          | true =>
            go_wp2
            go_quiet (fail)
            go_wp2
            go_roundg g2
            case measure => omega
            case rel => exact ⟨k + 1, _, true, rfl, by go_num, by omega, by show _ = _; rw [HT.out]; rfl, rfl⟩
          | false =>
            by_cases e0 : x.id = y.id
            · by_cases e1 : x.nm = y.nm
              · by_cases e2 : x.ty = y.ty
                · have HX : Hid (sameA x y = true) := by show _ = _; simp [sameA, e0, e1, e2]
                  have q0 : (x.id == y.id) = true := by simp [e0]
                  have q1 : (x.nm.toList == y.nm.toList) = true := by rw [e1, beq_self_eq_true]
                  have q2 : (x.ty == y.ty) = true := by simp [e2]
                  clear e0 e1 e2
                  go_wp2
                  go_quiet (fail)
                  go_wp2
                  go_roundg g2
                  case measure => omega
                  case rel => exact ⟨k + 1, _, true, rfl, by go_num, by omega, by show _ = _; rw [HT.out, HX.out]; rfl, rfl⟩
                · have HX : Hid (sameA x y = false) := by show _ = _; simp [sameA, e2]
                  have q0 : (x.id == y.id) = true := by simp [e0]
                  have q1 : (x.nm.toList == y.nm.toList) = true := by rw [e1, beq_self_eq_true]
                  have q2 : (x.ty == y.ty) = false := by simp [e2]
                  clear e0 e1 e2
                  go_wp2
                  go_quiet (fail)
                  go_wp2
                  go_roundg g2
                  case measure => omega
                  case rel => exact ⟨k + 1, _, false, rfl, by go_num, by omega, by show _ = _; rw [HT.out, HX.out]; rfl, rfl⟩
              · have HX : Hid (sameA x y = false) := by show _ = _; simp [sameA, e1]
                have q0 : (x.id == y.id) = true := by simp [e0]
                have q1 : (x.nm.toList == y.nm.toList) = false := by
                  rw [beq_eq_false_iff_ne, ByteArray.toList_eq, ByteArray.toList_eq]
                  exact fun h => e1 (ByteArray.ext (Array.toList_inj.1 h))
                clear e0 e1
                go_wp2
                go_quiet (fail)
                go_wp2
                go_roundg g2
                case measure => omega
                case rel => exact ⟨k + 1, _, false, rfl, by go_num, by omega, by show _ = _; rw [HT.out, HX.out]; rfl, rfl⟩
            · have HX : Hid (sameA x y = false) := by show _ = _; simp [sameA, e0]
              have q0 : (x.id == y.id) = false := by simp [e0]
              clear e0
              go_wp2
              go_quiet (fail)
              go_wp2
              go_roundg g2
              case measure => omega
              case rel => exact ⟨k + 1, _, false, rfl, by go_num, by omega, by show _ = _; rw [HT.out, HX.out]; rfl, rfl⟩
end Go.Proofs.Ytikbpcfoagineaa
