/-
  CONTRACT of the document's own answer: Make.
-/
import Derived.Test.YtefekkcmoambhaaSTwo
namespace Go.Proofs.Ytefekkcmoambhaa
open Go.RowKit

/-- may all spans be? -/
def okB (l : List Sp) : Bool := decide (∀ s ∈ l, s.1 < s.2)
def makeL (l : List Sp) : List Sp := if okB l then ofL orF l [] [] (endsL (l ++ [])) else []
def makeE (l : List Sp) : Int := if okB l then 0 else 30
set_option maxRecDepth 100000 in
set_option maxHeartbeats 1000000 in
theorem refMake_any (A : Option Addr) (c : Nat) (l : List Sp) (w : World) (hs : SlS w w.heap.size A l) (hA : A = none → l.length = 0 ∧ c = 0) (hl : l.length ≤ 100) :
    Calls Try.prog 16 #[.slice A l.length c] w fun e w' => ∃ v, e = .returned (.tuple #[v, .int .i64 (makeE l)]) ∧ OwnS w' w.heap.size v (makeL l) ∧ Below w.heap.size w w' := by
  have HS := Lib.hid hs
  have HNA := Lib.hid hA
  clear hs hA
  go_enter Try.func16, Try.ntmps16
  go_wp2
  go_loopw [4] (fun i wr => ∃ j n : Nat, j ≤ l.length ∧ i = .int .i64 j ∧ wr = w.drewN n ∧ Hid (∀ k s, k < j → l[k]? = some s → s.1 < s.2)) (fun i _ => l.length - (intOf i).toNat)
  case atStart => exact ⟨0, 0, by omega, rfl, rfl, fun k s hk => by omega⟩
  case round =>
    obtain ⟨j, n, hj, rfl, rfl, HO⟩ := hrel
    by_cases h1 : j < l.length
    · have hji : (j : Int) < (l.length : Int) := by omega
      obtain ⟨b, o, rfl, _, hp⟩ := HS.out.at_ h1
      obtain ⟨⟨x, y⟩, hpe⟩ : ∃ p, l[j] = p := ⟨_, rfl⟩
      have HG : Hid (l[j]? = some (x, y)) := by show _ = _; rw [List.getElem?_eq_getElem h1, hpe]
      rw [hpe] at hp
      have c0 := hp.c0
      have c1 := hp.c1
      clear hp hpe
      by_cases hxy : x < y
      · have hdg : decide (y ≤ x) = false := decide_eq_false (by omega)
        have HV : Hid (∀ k s, k < j + 1 → l[k]? = some s → s.1 < s.2) := fun k s hk hg => by
          rcases Nat.lt_succ_iff_lt_or_eq.1 hk with h | rfl
          · exact HO.out k s h hg
          · rw [HG.out] at hg
            cases hg
            exact hxy
        clear hxy
        go_wp2
        go_big_quiet (fail)
        go_wp2
        go_roundw
        case rel => exact ⟨j + 1, _, by omega, by go_num, rfl, HV⟩
        case measure => simp [intOf]; omega
      · have hdg : decide (y ≤ x) = true := decide_eq_true (by omega)
        have HN : Hid (okB l = false) := decide_eq_false fun h => hxy (h _ (List.mem_of_getElem? HG.out))
        clear hxy
        go_wp2
        go_big_quiet (fail)
        go_wp2
        go_ret2
        unfold makeE makeL
        rw [HN.out]
        exact ⟨_, rfl, ownS_nil _ _, below_ind (below_ind (Below.refl _ _) _) _⟩
    · have hji : ¬ (j : Int) < (l.length : Int) := by omega
      have HY : Hid (okB l = true) := decide_eq_true fun s hs9 => by
        obtain ⟨k, hk, rfl⟩ := List.getElem_of_mem hs9
        exact HO.out k _ (by omega) (List.getElem?_eq_getElem hk)
      go_wp2_with fail
      refine (ofOr_any A none c 0 l [] (w.drewN n) (HS.out.drewN n) (slS_nil _ _) HNA.out (fun _ => ⟨rfl, rfl⟩) hl (by simp)).mono ?_
      rintro e w3 ⟨v, rfl, ho, hb⟩
      have HO3 := Lib.hid ho
      have HB3 := Lib.hid ((below_ind (Below.refl w.heap.size w) n).trans hb)
      clear ho hb
      go_wp2_with fail
      go_ret2
      unfold makeE makeL
      rw [HY.out]
      exact ⟨_, rfl, HO3.out, HB3.out⟩
/-- What Make gives is a set, with what the spans have. -/
theorem makeL_set {l : List Sp} (h : okB l = true) : SetL (makeL l) ∧ ∀ t, innB (makeL l) t = innB l t := by
  unfold makeL
  rw [if_pos h]
  obtain ⟨h1, h2⟩ := of_set orF rfl l []
  refine ⟨h1, fun t => ?_⟩
  rw [h2, innB_no (a := []) (fun s hs => by cases hs)]
  exact Bool.or_false _
end Go.Proofs.Ytefekkcmoambhaa
