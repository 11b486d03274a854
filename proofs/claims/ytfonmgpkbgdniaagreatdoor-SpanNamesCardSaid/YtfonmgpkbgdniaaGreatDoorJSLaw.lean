import Derived.Test.YtfonmgpkbgdniaaGreatDoorJSAlive
import Derived.Laws.StructEq
import Derived.Deep.Draws
import Derived.Test.YtfonmgpkbgdniaaGreatDoorJSCov
import Derived.Test.YtfonmgpkbgdniaaGreatDoorJSLeaf
import Derived.Test.YtfonmgpkbgdniaaGreatDoorJSRefMk
import Derived.Test.YtfonmgpkbgdniaaGreatDoorJSRefMake
/-
  CONTRACTS: Check; Make, where a span may not be.
-/
namespace Go.Proofs.YtfonmgpkbgdniaaGreatDoor
open Go.RowKit

set_option maxRecDepth 100000 in
set_option maxHeartbeats 1000000 in
theorem checkS_any (A : Option Addr) (c : Nat) (l : List Sp) (w : World) (hs : SlS w w.heap.size A l) (hl : l.length ≤ 100000) :
    Calls Tryz.prog 10 #[.slice A l.length c] w fun e w' => e = .returned (.int .i64 (if setB l then 0 else 30)) ∧ Below w.heap.size w w' := by
  have h1 := isSet_any A c l w hs hl
  obtain ⟨x, hx⟩ : ∃ x, setB l = x := ⟨_, rfl⟩
  rw [hx] at h1 ⊢
  clear hs hx
  go_enter Tryz.func10, Tryz.ntmps10
  go_wp2_with fail
  refine h1.mono ?_
  rintro e w1 ⟨rfl, hb⟩
  have HB := Lib.hid hb
  clear h1 hb
  cases x
  · go_wp2
    go_ret
    exact ⟨rfl, HB.out⟩
  · go_wp2
    go_ret
    exact ⟨rfl, HB.out⟩

set_option maxRecDepth 100000 in
set_option maxHeartbeats 1000000 in
theorem make_no (A : Option Addr) (c : Nat) (l : List Sp) (w : World) (hs : SlS w w.heap.size A l) (hl : l.length ≤ 5000) (hv : ¬ ∀ s ∈ l, s.1 < s.2) :
    Calls Tryz.prog 20 #[.slice A l.length c] w fun e w' => e = .returned (.tuple #[.slice none 0 0, .int .i64 30]) ∧ Below w.heap.size w w' := by
  have HS := Lib.hid hs
  have HV := Lib.hid hv
  clear hs hv
  go_enter Tryz.func20, Tryz.ntmps20
  go_wp2
  go_loopg [5, 13] l.length (fun g _ z wr => ∃ j : Nat, z = .int .i64 j ∧ j + g = l.length ∧ Hid (Below w.heap.size w wr) ∧ Hid (∀ k s, k < j → l[k]? = some s → s.1 < s.2))
  case atStart => exact ⟨0, rfl, by omega, Below.refl _ _, fun k s hk => by omega⟩
  case round =>
    obtain ⟨j, rfl, hj, HB, HO⟩ := hrel
    cases gk with
    | succ g =>
      have hjz : (j : Int) < (l.length : Int) := by omega
      have hjn : j < l.length := by omega
      obtain ⟨b, o, rfl, _, hp⟩ := (HS.out.next HB.out (Nat.le_refl _)).at_ hjn
      obtain ⟨⟨x, y⟩, hse⟩ : ∃ s, l[j] = s := ⟨_, rfl⟩
      have HG : Hid (l[j]? = some (x, y)) := by show _ = _; rw [List.getElem?_eq_getElem hjn, hse]
      rw [hse] at hp
      have c0 := hp.c0
      have c1 := hp.c1
      have hbz := HB.out.size
      clear hp hse
      by_cases hxy : x < y
      · have HM := Lib.hid (show decide (x < y) = true from decide_eq_true hxy)
        have HN : Hid (∀ k s, k < j + 1 → l[k]? = some s → s.1 < s.2) := fun k s hk hg => by
          rcases Nat.lt_succ_iff_lt_or_eq.1 hk with h | rfl
          · exact HO.out k s h hg
          · rw [HG.out] at hg
            cases hg
            exact hxy
        clear hxy
        go_wp2_with fail
        refine (spMay_is x y true HM.out _).mono ?_
        rintro e w9 ⟨rfl, hb9⟩
        have HB9 := Lib.hid ((HB.out.alloc hbz (.cells #[.int .i64 x, .int .i64 y] 23)).trans (hb9.mono (by simp; omega)))
        clear hb9 c0 c1
        go_wp2
        go_roundg g
        case measure => omega
        case rel => exact ⟨j + 1, by go_num, by omega, HB9.out, HN.out⟩
      · have HM := Lib.hid (show decide (x < y) = false from decide_eq_false hxy)
        clear hxy
        go_wp2_with fail
        refine (spMay_is x y false HM.out _).mono ?_
        rintro e w9 ⟨rfl, hb9⟩
        have HB9 := Lib.hid ((HB.out.alloc hbz (.cells #[.int .i64 x, .int .i64 y] 23)).trans (hb9.mono (by simp; omega)))
        clear hb9 c0 c1
        go_wp2
        go_ret2
        exact ⟨rfl, HB9.out⟩
    | zero =>
      refine absurd (fun s hs9 => ?_) HV.out
      obtain ⟨k, hk, rfl⟩ := List.getElem_of_mem hs9
      exact HO.out k _ (by omega) (List.getElem?_eq_getElem hk)
end Go.Proofs.YtfonmgpkbgdniaaGreatDoor

/-
  FACTS for the law SpanSets: what the program's answers are, in the document's words.
-/
namespace Go.Proofs.YtfonmgpkbgdniaaGreatDoor
open Go.RowKit Go.Shelf

theorem ofL_len (f : Bool → Bool → Bool) (a b : List Sp) : ∀ (es : List Int) (acc : List Sp), (ofL f a b acc es).length ≤ acc.length + es.length
  | [], acc => by unfold ofL; exact Nat.le_add_right _ _
  | [_], acc => by unfold ofL; exact Nat.le_add_right _ _
  | x :: y :: r, acc => by
    unfold ofL
    refine Nat.le_trans (ofL_len f a b (y :: r) _) ?_
    have h1 : (if f (innB a x) (innB b x) = true then addL acc (x, y) else acc).length ≤ acc.length + 1 := by
      split
      · exact addL_len _ _
      · exact Nat.le_add_right _ _
    simp only [List.length_cons] at h1 ⊢
    omega
theorem innB_iff {l : List Sp} {t : Int} : innB l t = true ↔ Inn l t := decide_eq_true_iff
theorem inn_lowB {l : List Sp} {x : Int} (hk : ∀ s ∈ l, SpOk s) (hx : x < minT) : innB l x = false := innB_no fun s hs h => by
  have := (hk s hs).1.1
  omega
theorem makeL_len (l : List Sp) : (makeL l).length ≤ 2 * l.length := by
  unfold makeL
  split
  · refine Nat.le_trans (ofL_len _ _ _ _ _) ?_
    have := endsL_len (l ++ [])
    rw [List.append_nil] at this ⊢
    simp only [List.length_nil]
    omega
  · exact Nat.zero_le _
theorem twoL_len (g : Bool → Bool → Bool) (a b : List Sp) : (twoL g a b).length ≤ 2 * a.length + 2 * b.length := by
  unfold twoL
  split
  · refine Nat.le_trans (ofL_len _ _ _ _ _) ?_
    have := endsL_len (a ++ b)
    rw [List.length_append] at this
    simp only [List.length_nil]
    omega
  · exact Nat.zero_le _
/-- Make, as the document has it. -/
theorem make_is (A : Option Addr) (c : Nat) (l : List Sp) (w : World) (hs : SlS w w.heap.size A l) (hl : l.length ≤ 900) :
    Calls Tryz.prog 20 #[.slice A l.length c] w fun e w' => ∃ A' c', e = .returned (.tuple #[.slice A' (makeL l).length c', .int .i64 (makeE l)]) ∧ SlS w' w'.heap.size A' (makeL l) ∧ Below w.heap.size w w' := by
  by_cases hv : ∀ s ∈ l, s.1 < s.2
  · have ho : okB l = true := decide_eq_true hv
    obtain ⟨g1, g2⟩ := makeL_set ho
    have e2 : makeE l = 0 := by unfold makeE; rw [if_pos ho]
    refine (make_ok A c l w hs (by omega) hv).mono ?_
    rintro e w' ⟨r, v, h1, h2, rfl, h3, h4⟩
    have hr : r = makeL l := set_ext h1 g1 fun t => by rw [h2 t, ← innB_iff, ← innB_iff, g2 t]
    subst hr
    obtain ⟨A', c', rfl, h5, _, _⟩ := h3.sls
    rw [e2]
    exact ⟨A', c', rfl, h5, h4⟩
  · have ho : okB l = false := decide_eq_false hv
    have e1 : makeL l = [] := by unfold makeL; rw [ho]; rfl
    have e2 : makeE l = 30 := by unfold makeE; rw [ho]; rfl
    refine (make_no A c l w hs (by omega) hv).mono ?_
    rintro e w' ⟨rfl, h⟩
    rw [e1, e2]
    exact ⟨none, 0, rfl, slS_nil _ _, h⟩
theorem chEnd_two {W W' : World} {f : Nat → Bool} {g : Bool → Bool → Bool} {a b : List Sp} {e : Ending} (h : ChEnd W f a b e W') (hg : g false false = false) (hfg : ∀ x y, decide (wants f x y) = g x y) (hka : ∀ s ∈ a, SpOk s) (hkb : ∀ s ∈ b, SpOk s) :
    ∃ A c, e = .returned (.tuple #[.slice A (twoL g a b).length c, .int .i64 (twoE a b)]) ∧ SlS W' W'.heap.size A (twoL g a b) ∧ Below W.heap.size W W' := by
  obtain ⟨⟨h1, h2, l, v, h3, h4, rfl, h5⟩ | ⟨h1, rfl⟩, hb⟩ := h
  · obtain ⟨A, c, rfl, hs, _, _⟩ := h5.sls
    obtain ⟨k1, k2, k3⟩ := told_set h3 h1 h2 hka hkb
    obtain ⟨g1, g2⟩ := of_set g hg a b
    have e1 : twoL g a b = ofL g a b [] (endsL (a ++ b)) := by unfold twoL; rw [h1, h2]; rfl
    have e2 : twoE a b = 0 := by unfold twoE; rw [h1, h2]; rfl
    have hl : l = twoL g a b := by
      rw [e1]
      refine set_ext (of_decide_eq_true k1) g1 fun t => ?_
      rw [← innB_iff, ← innB_iff, g2 t]
      by_cases ht : minT ≤ t
      · rw [k3 t ht, hfg]
      · rw [inn_lowB k2 (by omega), inn_lowB hka (by omega), inn_lowB hkb (by omega), hg]
    subst hl
    rw [e2]
    exact ⟨A, c, rfl, hs, hb⟩
  · have e1 : twoL g a b = [] := by unfold twoL; rw [h1]; rfl
    have e2 : twoE a b = 30 := by unfold twoE; rw [h1]; rfl
    rw [e1, e2]
    exact ⟨none, 0, rfl, slS_nil _ _, hb⟩
theorem pick_none : ∀ (r : List (Sp × Nat)) (acc : List Sp), (∀ x ∈ r, x.2 ≠ 2) → pickL isTwo acc r = acc
  | [], _, _ => rfl
  | x :: r, acc, h => by
    have h2 : ¬ isTwo x.2 = true := by unfold isTwo; simpa using h x (by simp)
    rw [pickL_cons, if_neg h2]
    exact pick_none r acc fun y hy => h y (by simp [hy])
theorem wantsTwo_iff (x y : Bool) : decide (wants isTwo x y) = notF y x := by cases x <;> cases y <;> decide
/-- Covers, by what is told. -/
theorem told_covB {a b : List Sp} {r : List (Sp × Nat)} (h : Told a b minT r) (ha : setB a = true) (hb : setB b = true) (hka : ∀ s ∈ a, SpOk s) (hkb : ∀ s ∈ b, SpOk s) : covB a b = true ↔ ∀ x ∈ r, x.2 ≠ 2 := by
  obtain ⟨h1, h3, h4⟩ := told_pick h (live_of ha hka) (live_of hb hkb) (Int.le_refl _) isTwo [] setL_nil (fun _ h => by cases h)
  obtain ⟨g1, g2⟩ := of_set notF rfl b a
  have e1 : twoL notF b a = ofL notF b a [] (endsL (b ++ a)) := by unfold twoL; rw [ha, hb]; rfl
  have hP : pickL isTwo [] r = twoL notF b a := by
    rw [e1]
    refine set_ext h1 g1 fun t => ?_
    rw [h4 t, ← innB_iff (l := ofL _ _ _ _ _), g2 t, ← wantsTwo_iff, decide_eq_true_iff]
    refine ⟨fun k => ?_, fun k => .inr ⟨?_, k⟩⟩
    · rcases k with ⟨_, k⟩ | k
      · exact absurd k (inn_nil _)
      · exact k.2
    · by_cases ht : minT ≤ t
      · exact ht
      · have h9 := (wantsTwo_is _ _ k).2
        rw [inn_lowB hkb (by omega)] at h9
        cases h9
  unfold covB
  rw [ha, hb, ← hP]
  simp only [Bool.true_and, Bool.and_self, decide_eq_true_iff]
  refine ⟨fun k x hx h2 => ?_, fun k => ?_⟩
  · exact pick_ne r [] (.inr ⟨x, hx, h2⟩) (List.length_eq_zero_iff.1 k)
  · rw [pick_none r [] k]; rfl
theorem covB_unset {a b : List Sp} (h : (setB a && setB b) = false) : covB a b = false := by unfold covB; rw [h]; rfl
end Go.Proofs.YtfonmgpkbgdniaaGreatDoor
