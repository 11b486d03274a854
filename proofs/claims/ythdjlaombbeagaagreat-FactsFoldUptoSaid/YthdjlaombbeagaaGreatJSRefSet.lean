import Derived.Test.YthdjlaombbeagaaGreatProg
import Derived.Below
import Derived.WalkKit
import Derived.ProofKit
import Derived.Lib.Hide
import Derived.Test.YthdjlaombbeagaaGreatJFSome
import Derived.Test.YthdjlaombbeagaaGreatJSSet
/-
  CONTRACT: the document's wrong (layer 6): may a view's transactions not be?
-/
namespace Go.Proofs.YthdjlaombbeagaaGreat
open Go.RowKit

def wrongB (a s : Int) : Bool := decide (a < 0) || decide (s < 0) || decide (1099511627776 < a) || decide (1099511627776 < s)
set_option maxRecDepth 100000 in
set_option maxHeartbeats 2000000 in
theorem wrong_any (a s v : Int) (at_ hist : Bool) (w : World) :
    Calls Tryz.prog 29 #[.agg #[.int .i64 a, .int .i64 s, .int .i64 v, .bool at_, .bool hist]] w fun e w' => e = .returned (.bool (wrongB a s)) ∧ Below w.heap.size w w' := by
  obtain ⟨w1, hw1⟩ : ∃ X, w.alloc (.cells #[.int .i64 a, .int .i64 s, .int .i64 v, .bool at_, .bool hist] 24) = X := ⟨_, rfl⟩
  have HB1 : Hid (Below w.heap.size w w1) := by show Below _ _ _; rw [← hw1]; exact (Below.refl _ _).alloc (Nat.le_refl _) _
  have hx : w1.heap[w.heap.size]? = some (.cells #[.int .i64 a, .int .i64 s, .int .i64 v, .bool at_, .bool hist] 24 (0, 0)) := by rw [← hw1]; exact heap_alloc_new w _
  have c0 : w1.cell? ⟨w.heap.size, 0, none⟩ = some (.int .i64 a) := by simp [World.cell?, hx]
  have c1 : w1.cell? ⟨w.heap.size, 1, none⟩ = some (.int .i64 s) := by simp [World.cell?, hx]
  clear hx
  by_cases g1 : a < 0
  · have g1' : decide (a < 0) = true := decide_eq_true g1
    have HR : Hid (wrongB a s = true) := by show _ = _; unfold wrongB; rw [g1']; rfl
    rw [HR.out]
    clear g1
    go_enter Tryz.func29, Tryz.ntmps29
    go_wp2_with fail
    try rw [hw1]
    try go_wp2
    go_ret
    exact ⟨rfl, HB1.out⟩
  have g1' : decide (a < 0) = false := decide_eq_false g1
  by_cases g2 : s < 0
  · have g2' : decide (s < 0) = true := decide_eq_true g2
    have HR : Hid (wrongB a s = true) := by show _ = _; unfold wrongB; rw [g1', g2']; rfl
    rw [HR.out]
    clear g1 g2
    go_enter Tryz.func29, Tryz.ntmps29
    go_wp2_with fail
    try rw [hw1]
    try go_wp2
    go_ret
    exact ⟨rfl, HB1.out⟩
  have g2' : decide (s < 0) = false := decide_eq_false g2
  by_cases g3 : 1099511627776 < a
  · have g3' : decide (1099511627776 < a) = true := decide_eq_true g3
    have HR : Hid (wrongB a s = true) := by show _ = _; unfold wrongB; rw [g1', g2', g3']; rfl
    rw [HR.out]
    clear g1 g2 g3
    go_enter Tryz.func29, Tryz.ntmps29
    go_wp2_with fail
    try rw [hw1]
    try go_wp2
    go_ret
    exact ⟨rfl, HB1.out⟩
  have g3' : decide (1099511627776 < a) = false := decide_eq_false g3
  obtain ⟨r, hr⟩ : ∃ r, decide (1099511627776 < s) = r := ⟨_, rfl⟩
  have HR : Hid (wrongB a s = r) := by show _ = _; unfold wrongB; rw [g1', g2', g3', hr]; rfl
  rw [HR.out]
  clear g1 g2 g3
  go_enter Tryz.func29, Tryz.ntmps29
  go_wp2_with fail
  try rw [hw1]
  try go_wp2
  go_ret
  exact ⟨rfl, HB1.out⟩
end Go.Proofs.YthdjlaombbeagaaGreat

/-
  CONTRACT: the document's Datoms (layer 6).
-/
namespace Go.Proofs.YthdjlaombbeagaaGreat
open Go.RowKit

theorem wrong_mark (a s : Int) : wrongB a s = !(markB a && markB s) := by
  unfold wrongB markB
  by_cases g1 : a < 0 <;> by_cases g2 : s < 0 <;> by_cases g3 : 1099511627776 < a <;> by_cases g4 : 1099511627776 < s <;> simp [g1, g2, g3, g4] <;> omega
set_option maxRecDepth 100000 in
set_option maxHeartbeats 2000000 in
theorem dtsR_any (a s v : Int) (at_ hist : Bool) (A : Option Addr) (c : Nat) (l : List Dat) (w : World) (hs : SlD w w.heap.size A l) (hl : l.length ≤ 1000000) (hsz : ∀ d ∈ l, d.s.size ≤ maxLen) :
    Calls Tryz.prog 8 #[.slice A l.length c, .agg #[.int .i64 a, .int .i64 s, .int .i64 v, .bool at_, .bool hist]] w (DtsEnd w a s l) := by
  obtain ⟨w1, hw1⟩ : ∃ X, w.alloc (.cells #[.int .i64 a, .int .i64 s, .int .i64 v, .bool at_, .bool hist] 24) = X := ⟨_, rfl⟩
  have hb1 : Below w.heap.size w w1 := by rw [← hw1]; exact (Below.refl _ _).alloc (Nat.le_refl _) _
  have hx : w1.heap[w.heap.size]? = some (.cells #[.int .i64 a, .int .i64 s, .int .i64 v, .bool at_, .bool hist] 24 (0, 0)) := by rw [← hw1]; exact heap_alloc_new w _
  have HVC : Hid (∀ X, Below w1.heap.size w1 X → ∀ j, X.cell? ⟨w.heap.size, j, none⟩ = (#[Value.int .i64 a, .int .i64 s, .int .i64 v, .bool at_, .bool hist])[j]?) := fun X hX j => by
    rw [hX.cell (p := ⟨w.heap.size, j, none⟩) (Array.getElem?_eq_some_iff.1 hx).1]
    simp [World.cell?, hx]
  have HB1 := Lib.hid hb1
  have HS := Lib.hid (fun X (hX : Below w.heap.size w X) => (hs.next hX (Nat.le_refl _)).more hX.size)
  have HSZ := Lib.hid hsz
  have c0 := HVC.out w1 (Below.refl _ _) 0
  have c1 := HVC.out w1 (Below.refl _ _) 1
  have c2 := HVC.out w1 (Below.refl _ _) 2
  have c3 := HVC.out w1 (Below.refl _ _) 3
  have c4 := HVC.out w1 (Below.refl _ _) 4
  have HW := Lib.hid (wrong_any a s v at_ hist w1)
  have HWM := Lib.hid (wrong_mark a s)
  clear hs hx hsz hb1
  go_enter Tryz.func8, Tryz.ntmps8
  go_wp2_with fail
  try rw [hw1]
  clear hw1
  refine HW.out.mono ?_
  rintro e w2 ⟨rfl, hb2⟩
  have HB2 := Lib.hid hb2
  have HBW := Lib.hid (HB1.out.trans (hb2.mono HB1.out.size))
  clear c0 c1 c2 c3 c4 hb2 HW
  cases hwb : wrongB a s with
  | true =>
    have HF : Hid (DtsEnd w a s l (.returned (.tuple #[.slice none 0 0, .int .i64 2])) w2) := ⟨⟨none, 0, 0, 2, rfl, .inr ⟨(by have := HWM.out; rw [hwb] at this; cases hm : (markB a && markB s) with | false => rfl | true => rw [hm] at this; cases this), rfl, rfl, rfl, rfl⟩⟩, HBW.out⟩
    clear hwb
    go_wp2
    go_ret2
    exact HF.out
  | false =>
    have HMK : Hid ((markB a && markB s) = true) := by show _ = _; have := HWM.out; rw [hwb] at this; cases hm : (markB a && markB s) with | true => rfl | false => rw [hm] at this; cases this
    have HSM := Lib.hid (some_any a s v at_ hist A c l w2 (HS.out w2 HBW.out) hl HSZ.out)
    have c0 := HVC.out w2 HB2.out 0
    have c1 := HVC.out w2 HB2.out 1
    have c2 := HVC.out w2 HB2.out 2
    have c3 := HVC.out w2 HB2.out 3
    have c4 := HVC.out w2 HB2.out 4
    clear hwb
    go_wp2_with fail
    refine HSM.out.mono ?_
    rintro e w3 ⟨v3, rfl, ho3, hb3⟩
    obtain ⟨M, hM⟩ : ∃ M, putsG (ordD 1) ((l.filter (seesB a s)).filter (hasD 1)) = M := ⟨_, rfl⟩
    rw [hM] at ho3
    have HM : Hid (M = sortsD 1 (l.filter (seesB a s))) := hM.symm
    clear hM
    obtain ⟨A3, c3', e3, hsl, _⟩ := ho3.form
    subst e3
    have hmk := HMK.out
    rw [Bool.and_eq_true] at hmk
    have HF : Hid (DtsEnd w a s l (.returned (.tuple #[.slice A3 M.length c3', .int .i64 0])) w3) := ⟨⟨A3, c3', _, 0, rfl, .inl ⟨hmk.1, hmk.2, rfl, by rw [HM.out], by rw [← HM.out]; exact hsl⟩⟩, HBW.out.trans (hb3.mono HBW.out.size)⟩
    clear hmk ho3 hb3 hsl c0 c1 c2 c3 c4
    go_wp2
    go_ret2
    exact HF.out
end Go.Proofs.YthdjlaombbeagaaGreat

/-
  CONTRACT of the document's own answer: Set.
-/
namespace Go.Proofs.YthdjlaombbeagaaGreat
open Go.RowKit

set_option maxRecDepth 100000 in
set_option maxHeartbeats 400000 in
theorem refSet_big (A : Option Addr) (c : Nat) (l : List Sp) (w : World) (B : Nat) (hs : SlS w B A l) (hl : l.length ≤ 9223372036854775807) :
    Calls Tryz.prog 87 #[.slice A l.length c] w fun e w' => e = .returned (.bool (setB l)) ∧ ∃ n, w' = w.drewN n := by
  go_enter Tryz.func87, Tryz.ntmps87
  go_wp2
  go_loopw [3] (fun i wr => ∃ j n : Nat, j ≤ l.length ∧ i = .int .i64 j ∧ wr = w.drewN n ∧ Hid (∀ k, k < j → OkAt l k)) (fun i _ => l.length - (intOf i).toNat)
  case atStart => exact ⟨0, 0, by omega, rfl, rfl, fun k hk => by omega⟩
  case round =>
    obtain ⟨j, n, hj, rfl, rfl, HO⟩ := hrel
    by_cases h1 : j < l.length
    · have hji : (j : Int) < (l.length : Int) := by omega
      obtain ⟨b, o, rfl, _, hp⟩ := hs.at_ h1
      obtain ⟨⟨x, y⟩, hpe⟩ : ∃ p, l[j] = p := ⟨_, rfl⟩
      have HG : Hid (l[j]? = some (x, y)) := by show _ = _; rw [List.getElem?_eq_getElem h1, hpe]
      rw [hpe] at hp
      have c0 := hp.c0
      have c1 := hp.c1
      have HS := Lib.hid hs
      clear hp hpe
      by_cases hxy : x < y
      · have hng : ¬ y ≤ x := by omega
        have hdg : decide (y ≤ x) = false := decide_eq_false hng
        cases j with
        | zero =>
          have HY : Hid (∀ i, i < 0 + 1 → OkAt l i) := fun i hi => by
            obtain rfl : i = 0 := by omega
            exact (okAt_first HG.out).2 hxy
          clear hs
          simp only [Nat.zero_mul, Nat.add_zero] at c0 c1
          go_wp2
          go_big_quiet (fail)
          go_wp2
          go_roundw
          case rel => exact ⟨0 + 1, _, by omega, rfl, rfl, HY⟩
          case measure => simp [intOf]; omega
        | succ k =>
          have hkl : k < l.length := by omega
          obtain ⟨b', o', he, _, hq⟩ := hs.at_ hkl
          cases he
          obtain ⟨p, hpe⟩ : ∃ p, l[k] = p := ⟨_, rfl⟩
          have HPG : Hid (l[k]? = some p) := by show _ = _; rw [List.getElem?_eq_getElem hkl, hpe]
          rw [hpe] at hq
          have d1 := hq.c1
          clear hq hs hpe
          have hk0 : (0 : Int) < (k : Int) + 1 := by omega
          have hdk : decide ((0 : Int) < (k : Int) + 1) = true := decide_eq_true hk0
          have hki : (k : Int) < (l.length : Int) := by omega
          have hwr : IntKind.i64.wrap (k : Int) = (k : Int) := by
            rw [IntWalk.i64_in _ (by omega)]
          by_cases hle : x ≤ p.2
          · have hdp : decide (x ≤ p.2) = true := decide_eq_true hle
            have HN := Lib.hid (setB_no (l := l) (i := k + 1) (fun h => by have := ((okAt_next (by omega) HG.out HPG.out).1 h).2; simp only at this; omega))
            go_wp2
            go_big_quiet (fail)
            go_wp2
            go_ret
            exact ⟨by rw [HN.out]; rfl, _, World.drewN_drewN _ _ _⟩
          · have hdp : decide (x ≤ p.2) = false := decide_eq_false hle
            have HY : Hid (∀ i, i < k + 1 + 1 → OkAt l i) := fun i hi => by
              rcases Nat.lt_succ_iff_lt_or_eq.1 hi with h | rfl
              · exact HO.out i h
              · exact (okAt_next (by omega) HG.out HPG.out).2 ⟨hxy, by simp only; omega⟩
            go_wp2
            go_big_quiet (fail)
            go_wp2
            go_roundw
            case rel => exact ⟨k + 1 + 1, _, by omega, by go_num, rfl, HY⟩
            case measure => simp [intOf]; omega
      · have hng : y ≤ x := by omega
        have hdg : decide (y ≤ x) = true := decide_eq_true hng
        have HN := Lib.hid (setB_no (l := l) (i := j) (fun h => hxy ((h _ HG.out).1)))
        clear hs
        go_wp2
        go_big_quiet (fail)
        go_wp2
        go_ret
        exact ⟨by rw [HN.out]; rfl, _, World.drewN_drewN _ _ _⟩
    · have hji : ¬ (j : Int) < (l.length : Int) := by omega
      have HV := Lib.hid (setB_all (l := l) (fun i hi => HO.out i (by omega)))
      go_wp2
      go_ret
      exact ⟨by rw [HV.out]; rfl, n, rfl⟩
end Go.Proofs.YthdjlaombbeagaaGreat
