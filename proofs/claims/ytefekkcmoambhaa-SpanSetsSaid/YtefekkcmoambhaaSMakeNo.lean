/-
  CONTRACTS: Check; Make, where a span may not be.
-/
import Derived.Test.YtefekkcmoambhaaSAlive
namespace Go.Proofs.Ytefekkcmoambhaa
open Go.RowKit

set_option maxRecDepth 100000 in
set_option maxHeartbeats 1000000 in
theorem checkS_any (A : Option Addr) (c : Nat) (l : List Sp) (w : World) (hs : SlS w w.heap.size A l) (hl : l.length ≤ 100000) :
    Calls Try.prog 23 #[.slice A l.length c] w fun e w' => e = .returned (.int .i64 (if setB l then 0 else 30)) ∧ Below w.heap.size w w' := by
  have h1 := isSet_any A c l w hs hl
  obtain ⟨x, hx⟩ : ∃ x, setB l = x := ⟨_, rfl⟩
  rw [hx] at h1 ⊢
  clear hs hx
  go_enter Try.func23, Try.ntmps23
  go_wp2_with fail
  refine h1.mono ?_
  rintro e w1 ⟨rfl, hb⟩
  have HB := Lib.hid hb
  clear h1 hb
  cases x
  · go_wp2
    go_ret
    exact ⟨rfl, HB.out⟩
  · go_wp2
    go_ret
    exact ⟨rfl, HB.out⟩

set_option maxRecDepth 100000 in
set_option maxHeartbeats 1000000 in
theorem make_no (A : Option Addr) (c : Nat) (l : List Sp) (w : World) (hs : SlS w w.heap.size A l) (hl : l.length ≤ 900) (hv : ¬ ∀ s ∈ l, s.1 < s.2) :
    Calls Try.prog 15 #[.slice A l.length c] w fun e w' => e = .returned (.tuple #[.slice none 0 0, .int .i64 30]) ∧ Below w.heap.size w w' := by
  have HS := Lib.hid hs
  have HV := Lib.hid hv
  clear hs hv
  go_enter Try.func15, Try.ntmps15
  go_wp2
  go_loopg [5, 13] l.length (fun g _ z wr => ∃ j : Nat, z = .int .i64 j ∧ j + g = l.length ∧ Hid (Below w.heap.size w wr) ∧ Hid (∀ k s, k < j → l[k]? = some s → s.1 < s.2))
  case atStart => exact ⟨0, rfl, by omega, Below.refl _ _, fun k s hk => by omega⟩
  case round =>
    obtain ⟨j, rfl, hj, HB, HO⟩ := hrel
    cases gk with
    | succ g =>
      have hjz : (j : Int) < (l.length : Int) := by omega
      have hjn : j < l.length := by omega
      obtain ⟨b, o, rfl, _, hp⟩ := (HS.out.next HB.out (Nat.le_refl _)).at_ hjn
      obtain ⟨⟨x, y⟩, hse⟩ : ∃ s, l[j] = s := ⟨_, rfl⟩
      have HG : Hid (l[j]? = some (x, y)) := by show _ = _; rw [List.getElem?_eq_getElem hjn, hse]
      rw [hse] at hp
      have c0 := hp.c0
      have c1 := hp.c1
      have hbz := HB.out.size
      clear hp hse
      by_cases hxy : x < y
      · have HM := Lib.hid (show decide (x < y) = true from decide_eq_true hxy)
        have HN : Hid (∀ k s, k < j + 1 → l[k]? = some s → s.1 < s.2) := fun k s hk hg => by
          rcases Nat.lt_succ_iff_lt_or_eq.1 hk with h | rfl
          · exact HO.out k s h hg
          · rw [HG.out] at hg
            cases hg
            exact hxy
        clear hxy
        go_wp2_with fail
        refine (spMay_is x y true HM.out _).mono ?_
        rintro e w9 ⟨rfl, hb9⟩
        have HB9 := Lib.hid ((HB.out.alloc hbz (.cells #[.int .i64 x, .int .i64 y] 74)).trans (hb9.mono (by simp; omega)))
        clear hb9 c0 c1
        go_wp2
        go_roundg g
        case measure => omega
        case rel => exact ⟨j + 1, by go_num, by omega, HB9.out, HN.out⟩
      · have HM := Lib.hid (show decide (x < y) = false from decide_eq_false hxy)
        clear hxy
        go_wp2_with fail
        refine (spMay_is x y false HM.out _).mono ?_
        rintro e w9 ⟨rfl, hb9⟩
        have HB9 := Lib.hid ((HB.out.alloc hbz (.cells #[.int .i64 x, .int .i64 y] 74)).trans (hb9.mono (by simp; omega)))
        clear hb9 c0 c1
        go_wp2
        go_ret2
        exact ⟨rfl, HB9.out⟩
    | zero =>
      refine absurd (fun s hs9 => ?_) HV.out
      obtain ⟨k, hk, rfl⟩ := List.getElem_of_mem hs9
      exact HO.out k _ (by omega) (List.getElem?_eq_getElem hk)
end Go.Proofs.Ytefekkcmoambhaa
