/-
  CONTRACT: the document's Deepest, of trees so deep at most.
-/
import Derived.Test.YthbighnkohjfnaaGreatDoorWTSize
import Derived.Deep.Draws
import Derived.BigQuiet
namespace Go.Proofs.YthbighnkohjfnaaGreatDoor
open Go.RowKit

mutual
def dpN : Nd → Nat
  | .mk k _ _ _ _ kids _ _ => if k < 3 then 0 else 1 + dpL kids
def dpL : List Nd → Nat
  | [] => 0
  | x :: l => max (dpN x) (dpL l)
end
theorem dpN_eq (x : Nd) : dpN x = if x.k < 3 then 0 else 1 + dpL x.kids := by cases x; rw [dpN]; rfl
theorem dpL_nil : dpL [] = 0 := by rw [dpL]
theorem dpL_cons (x : Nd) (l : List Nd) : dpL (x :: l) = max (dpN x) (dpL l) := by rw [dpL]
theorem dpL_append : ∀ (a b : List Nd), dpL (a ++ b) = max (dpL a) (dpL b)
  | [], b => by rw [dpL_nil, Nat.zero_max]; rfl
  | x :: a, b => by rw [List.cons_append, dpL_cons, dpL_cons, dpL_append a b, Nat.max_assoc]
theorem dpL_take {l : List Nd} {j : Nat} (h : j < l.length) : dpL (l.take (j + 1)) = max (dpL (l.take j)) (if l[j].k < 3 then 0 else 1 + dpL l[j].kids) := by
  rw [List.take_succ_eq_append_getElem h, dpL_append, dpL_cons, dpL_nil, dpN_eq, Nat.max_zero]
theorem dpL_mem : ∀ {l : List Nd} {n : Nat}, (∀ x ∈ l, dpN x ≤ n) → dpL l ≤ n
  | [], _, _ => by rw [dpL_nil]; exact Nat.zero_le _
  | x :: l, n, h => by
    rw [dpL_cons]
    exact Nat.max_le.2 ⟨h x (List.mem_cons_self), dpL_mem fun y hy => h y (List.mem_cons_of_mem _ hy)⟩
theorem SlN.deep : ∀ {d : Nat} {W : World} {B : Nat → Prop} {A : Option Addr} {l : List Nd}, SlN d W B A l → dpL l ≤ d
  | 0, _, _, _, l, h => by rw [show l = [] from h, dpL_nil]; exact Nat.le_refl _
  | d + 1, W, B, A, l, h => dpL_mem fun x hx => by
    obtain ⟨j, hj, rfl⟩ := List.mem_iff_getElem.1 hx
    obtain ⟨_, _, _, _, _, _, _, hk⟩ := h.at_ hj
    rw [dpN_eq]
    have := SlN.deep hk
    by_cases h3 : l[j].k < 3
    · rw [if_pos h3]; omega
    · rw [if_neg h3]; omega
set_option maxRecDepth 100000 in
set_option maxHeartbeats 4000000 in
theorem deep_any (d : Nat) (A : Option Addr) (c : Nat) (l : List Nd) (w : World) (B : Nat → Prop) (hs : SlN d w B A l) (hd : d ≤ 100000) :
    Calls Tryz.prog 17 #[.slice A l.length c] w fun e w' => e = .returned (.int .i64 (dpL l : Nat)) ∧ ∃ n, w' = w.drewN n := by
  induction d generalizing A c l w with
  | zero =>
    obtain rfl : l = [] := hs
    have HZ := Lib.hid dpL_nil
    go_enter Tryz.func17, Tryz.ntmps17
    go_wp2
    go_loopw [3, 4] (fun m i wr => m = .int .i64 0 ∧ i = .int .i64 0 ∧ wr = w) (fun _ i _ => 0)
    case atStart => exact ⟨rfl, rfl, rfl⟩
    case round =>
      obtain ⟨rfl, rfl, rfl⟩ := hrel
      go_wp2
      go_ret
      exact ⟨by rw [HZ.out]; rfl, 0, rfl⟩
  | succ d ih =>
    have hl := hs.len
    have IH := Lib.hid ih
    have HS := Lib.hid hs
    have HZ := Lib.hid dpL_nil
    clear ih hs
    go_enter Tryz.func17, Tryz.ntmps17
    go_wp2
    go_loopw [3, 4] (fun m i wr => ∃ j n k : Nat, j ≤ l.length ∧ i = .int .i64 j ∧ m = .int .i64 k ∧ wr = w.drewN n ∧ k ≤ d + 1 ∧ Hid (dpL (l.take j) = k)) (fun _ i _ => l.length - (intOf i).toNat)
    case atStart => exact ⟨0, 0, 0, by omega, rfl, rfl, rfl, by omega, by rw [List.take_zero]; exact dpL_nil⟩
    case round =>
      obtain ⟨j, n, k, hj, rfl, rfl, rfl, hk1, HK⟩ := hrel
      by_cases h1 : j < l.length
      · have hji : (j : Int) < (l.length : Int) := by omega
        have HT := Lib.hid (dpL_take h1)
        obtain ⟨b, o, K, kc, rfl, _, hp, hk⟩ := HS.out.at_ h1
        obtain ⟨x, hpe⟩ : ∃ p, l[j] = p := ⟨_, rfl⟩
        rw [hpe] at hp hk HT
        have c0 : w.cell? ⟨b, o + j * 8, none⟩ = some (.int .i64 x.k) := hp 0 (by decide)
        have c5 : w.cell? ⟨b, o + j * 8 + 5, none⟩ = some (.slice K x.kids.length kc) := hp 5 (by decide)
        have HKD := Lib.hid hk
        have HDP := Lib.hid hk.deep
        clear hp hpe hk
        rw [HK.out] at HT
        by_cases h3 : x.k < 3
        · have hd3 : decide (x.k < 3) = true := decide_eq_true h3
          have HE : Hid (dpL (l.take (j + 1)) = k) := by show _ = _; rw [HT.out, if_pos h3, Nat.max_zero]
          clear h3
          go_wp2
          go_roundw
          case rel => exact ⟨j + 1, n, k, by omega, by go_num, rfl, rfl, hk1, HE⟩
          case measure => simp [intOf]; omega
        · have hd3 : decide (x.k < 3) = false := decide_eq_false h3
          have HE : Hid (dpL (l.take (j + 1)) = max k (1 + dpL x.kids)) := by show _ = _; rw [HT.out, if_neg h3]
          obtain ⟨p, hp⟩ : ∃ p, dpL x.kids = p := ⟨_, rfl⟩
          have HCL := Lib.hid (IH.out K kc x.kids (w.drewN n) (HKD.out.drewN n) (by omega))
          have hpd := HDP.out
          rw [hp] at HE hpd HCL
          have hw1 : IntKind.i64.wrap (1 + (p : Int)) = ((1 + p : Nat) : Int) := IntWalk.i64_in _ (by omega)
          clear h3 hp
          go_wp2_with fail
          refine HCL.out.mono ?_
          rintro e w2 ⟨rfl, m, rfl⟩
          by_cases hgt : k < 1 + p
          · have hg : decide ((k : Int) < 1 + (p : Int)) = true := decide_eq_true (by omega)
            have HE2 : Hid (dpL (l.take (j + 1)) = 1 + p) := by show _ = _; rw [HE.out, Nat.max_eq_right (by omega)]
            go_wp2
            go_roundw
            case rel => exact ⟨j + 1, n + m, 1 + p, by omega, by go_num, by go_num, rfl, by omega, HE2⟩
            case measure => simp [intOf]; omega
          · have hg : decide ((k : Int) < 1 + (p : Int)) = false := decide_eq_false (by omega)
            have HE2 : Hid (dpL (l.take (j + 1)) = k) := by show _ = _; rw [HE.out, Nat.max_eq_left (by omega)]
            go_wp2
            go_roundw
            case rel => exact ⟨j + 1, n + m, k, by omega, by go_num, rfl, rfl, hk1, HE2⟩
            case measure => simp [intOf]; omega
      · have hji : ¬ (j : Int) < (l.length : Int) := by omega
        have HE : Hid (dpL l = k) := by have := HK.out; rwa [List.take_of_length_le (by omega)] at this
        go_wp2
        go_ret
        exact ⟨by rw [HE.out]; rfl, n, rfl⟩
end Go.Proofs.YthbighnkohjfnaaGreatDoor
