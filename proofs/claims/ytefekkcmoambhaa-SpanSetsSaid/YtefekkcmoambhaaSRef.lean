/-
  CONTRACTS of the document's own answer: In.
-/
import Derived.Test.YtefekkcmoambhaaSSet
import Derived.Test.YtefekkcmoambhaaSEndP
namespace Go.Proofs.Ytefekkcmoambhaa
open Go.RowKit

set_option maxRecDepth 100000 in
set_option maxHeartbeats 4000000 in
theorem refIn_any (A : Option Addr) (c : Nat) (l : List Sp) (t : Int) (w : World) (B : Nat) (hs : SlS w B A l) (hl : l.length ≤ 1048576) :
    Calls Try.prog 25 #[.slice A l.length c, .int .i64 t] w fun e w' => e = .returned (.bool (innB l t)) ∧ ∃ n, w' = w.drewN n := by
  go_enter Try.func25, Try.ntmps25
  go_wp2
  go_loopw [5] (fun i wr => ∃ j n : Nat, j ≤ l.length ∧ i = .int .i64 j ∧ wr = w.drewN n ∧ Hid (∀ k s, k < j → l[k]? = some s → ¬ (s.1 ≤ t ∧ t < s.2))) (fun i _ => l.length - (intOf i).toNat)
  case atStart => exact ⟨0, 0, by omega, rfl, rfl, fun k s hk => by omega⟩
  case round =>
    obtain ⟨j, n, hj, rfl, rfl, HO⟩ := hrel
    by_cases h1 : j < l.length
    · have hji : (j : Int) < (l.length : Int) := by omega
      obtain ⟨b, o, rfl, _, hp⟩ := hs.at_ h1
      obtain ⟨⟨x, y⟩, hpe⟩ : ∃ p, l[j] = p := ⟨_, rfl⟩
      have HG : Hid (l[j]? = some (x, y)) := by show _ = _; rw [List.getElem?_eq_getElem h1, hpe]
      rw [hpe] at hp
      have c0 := hp.c0
      have c1 := hp.c1
      have HS := Lib.hid hs
      clear hp hpe hs
      by_cases hx : x ≤ t
      · by_cases hy : t < y
        · have HV : Hid (innB l t = true) := decide_eq_true ⟨(x, y), List.mem_of_getElem? HG.out, hx, hy⟩
          go_wp2
          go_ret
          exact ⟨by rw [HV.out]; rfl, _, rfl⟩
        · have HV : Hid (∀ k s, k < j + 1 → l[k]? = some s → ¬ (s.1 ≤ t ∧ t < s.2)) := fun k s hk hg => by
            rcases Nat.lt_succ_iff_lt_or_eq.1 hk with h | rfl
            · exact HO.out k s h hg
            · rw [HG.out] at hg
              cases hg
              exact fun h => hy h.2
          go_wp2
          go_roundw
          case rel => exact ⟨j + 1, _, by omega, by go_num, rfl, HV⟩
          case measure => simp [intOf]; omega
      · have HV : Hid (∀ k s, k < j + 1 → l[k]? = some s → ¬ (s.1 ≤ t ∧ t < s.2)) := fun k s hk hg => by
          rcases Nat.lt_succ_iff_lt_or_eq.1 hk with h | rfl
          · exact HO.out k s h hg
          · rw [HG.out] at hg
            cases hg
            exact fun h => hx h.1
        go_wp2
        go_roundw
        case rel => exact ⟨j + 1, _, by omega, by go_num, rfl, HV⟩
        case measure => simp [intOf]; omega
    · have hji : ¬ (j : Int) < (l.length : Int) := by omega
      have HV : Hid (innB l t = false) := innB_no fun s hs9 => by
        obtain ⟨k, hk, rfl⟩ := List.getElem_of_mem hs9
        exact HO.out k _ (by omega) (List.getElem?_eq_getElem hk)
      go_wp2
      go_ret
      exact ⟨by rw [HV.out]; rfl, n, rfl⟩

end Go.Proofs.Ytefekkcmoambhaa
