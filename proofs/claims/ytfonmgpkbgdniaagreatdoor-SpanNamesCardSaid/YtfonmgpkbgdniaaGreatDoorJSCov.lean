import Derived.RangeFuncBox
import Derived.Test.YtfonmgpkbgdniaaGreatDoorJSSet
import Derived.Test.YtfonmgpkbgdniaaGreatDoorJSAlive
import Derived.WalkMore
/-
  CONTRACT: Has.
-/
namespace Go.Proofs.YtfonmgpkbgdniaaGreatDoor
open Go.RowKit

def inS (s : Sp) (t : Int) : Bool := decide (s.1 ≤ t) && decide (t < s.2)
theorem innB_any (l : List Sp) (t : Int) : innB l t = l.any fun s => inS s t := by
  rw [Bool.eq_iff_iff]
  unfold innB inS
  rw [decide_eq_true_iff, List.any_eq_true]
  constructor
  · rintro ⟨s, h, h1, h2⟩; exact ⟨s, h, by simp [h1, h2]⟩
  · rintro ⟨s, h, h1⟩
    simp only [Bool.and_eq_true, decide_eq_true_eq] at h1
    exact ⟨s, h, h1.1, h1.2⟩
set_option maxHeartbeats 1000000 in
theorem has1_any (x y t : Int) (Bt : Nat) (w : World) (v : Bool) (hv : inS (x, y) t = v) (hb : w.cell? ⟨Bt, 0, none⟩ = some (.int .i64 t)) (hlt : Bt < w.heap.size) :
    Calls Tryz.prog 22 #[.agg #[.int .i64 x, .int .i64 y], .pointer (some ⟨Bt, 0, none⟩)] w fun e w' => e = .returned (.bool v) ∧ Below w.heap.size w w' := by
  have b0 : (w.alloc (.cells #[.int .i64 x, .int .i64 y] 23)).cell? ⟨Bt, 0, none⟩ = some (.int .i64 t) := (World.cell?_alloc_lt _ _ ⟨Bt, 0, none⟩ hlt).trans hb
  subst hv
  clear hb
  by_cases h1 : x ≤ t
  · by_cases h2 : t < y
    · have e : Hid (inS (x, y) t = true) := by show _ = _; unfold inS; simp [h1, h2]
      go_enter Tryz.func22, Tryz.ntmps22
      go_wp2
      go_ret
      exact ⟨by rw [e.out]; rfl, (Below.refl _ _).alloc (Nat.le_refl _) _⟩
    · have e : Hid (inS (x, y) t = false) := by show _ = _; unfold inS; simp [h2]
      go_enter Tryz.func22, Tryz.ntmps22
      go_wp2
      go_ret
      exact ⟨by rw [e.out]; rfl, (Below.refl _ _).alloc (Nat.le_refl _) _⟩
  · have e : Hid (inS (x, y) t = false) := by show _ = _; unfold inS; simp [h1]
    have h1' : decide (x ≤ t) = false := decide_eq_false h1
    go_enter Tryz.func22, Tryz.ntmps22
    go_wp2
    go_ret
    exact ⟨by rw [e.out]; rfl, (Below.refl _ _).alloc (Nat.le_refl _) _⟩

set_option maxRecDepth 100000 in
set_option maxHeartbeats 1000000 in
theorem indexS_any (A : Option Addr) (c : Nat) (l : List Sp) (t : Int) (Bt : Nat) (w : World) (hs : SlS w w.heap.size A l) (hl : l.length ≤ 100000) (hb : w.cell? ⟨Bt, 0, none⟩ = some (.int .i64 t)) (hlt : Bt < w.heap.size) :
    Calls Tryz.prog 33 #[.slice A l.length c, .func (.func 22) #[] #[.pointer (some ⟨Bt, 0, none⟩)]] w fun e w' => (∃ k : Int, e = .returned (.int .i64 k) ∧ (innB l t = true ∧ 0 ≤ k ∨ innB l t = false ∧ k = -1)) ∧ Below w.heap.size w w' := by
  have HS := Lib.hid hs
  have HT := Lib.hid hb
  clear hs hb
  go_enter Tryz.func33, Tryz.ntmps33
  go_wp2
  go_loopg [5, 8] l.length (fun g _ y wr => ∃ j : Nat, y = .int .i64 j ∧ j + g = l.length ∧ Hid ((l.take j).any (fun s => inS s t) = false) ∧ Hid (Below w.heap.size w wr))
  case atStart => exact ⟨0, rfl, by omega, rfl, Below.refl _ _⟩
  case round =>
    obtain ⟨j, rfl, hj, HN, HB⟩ := hrel
    cases gk with
    | zero =>
      have hjz : ¬ ((j : Int) < (l.length : Int)) := by omega
      have HE : Hid (innB l t = false) := by
        show _ = _
        rw [innB_any]
        have := HN.out
        rwa [List.take_of_length_le (by omega)] at this
      go_wp2
      go_ret
      exact ⟨⟨_, rfl, .inr ⟨HE.out, rfl⟩⟩, HB.out⟩
    | succ g =>
      have hjz : (j : Int) < (l.length : Int) := by omega
      have hjn : j < l.length := by omega
      obtain ⟨b, o, rfl, _, hp⟩ := (HS.out.next HB.out (Nat.le_refl _)).at_ hjn
      have hts := List.take_succ_eq_append_getElem hjn
      obtain ⟨⟨x, y⟩, hse⟩ : ∃ s, l[j] = s := ⟨_, rfl⟩
      have hmem : (x, y) ∈ l := by rw [← hse]; exact List.getElem_mem hjn
      rw [hse] at hp hts
      have c0 := hp.c0
      have c1 := hp.c1
      have HTS := Lib.hid hts
      have HM := Lib.hid hmem
      have hbz := HB.out.size
      have hbt := (HB.out.cell (p := ⟨Bt, 0, none⟩) hlt).trans HT.out
      have HBT := Lib.hid hbt
      clear hp hse hts hbt hmem
      cases hv : inS (x, y) t
      · have HW := Lib.hid (fun X h1 h2 => has1_any x y t Bt X false hv h1 h2)
        have HST : Hid ((l.take (j + 1)).any (fun s => inS s t) = false) := by show _ = _; rw [HTS.out, List.any_append, HN.out]; simp [hv]
        clear hv
        go_wp2_with fail
        refine (HW.out _ HBT.out (by omega)).mono ?_
        rintro e w9 ⟨rfl, hb9⟩
        have HB9 := Lib.hid (HB.out.trans (hb9.mono hbz))
        clear hb9 c0 c1
        go_wp2
        go_roundg g
        case measure => omega
        case rel => exact ⟨j + 1, by go_num, by omega, HST.out, HB9.out⟩
      · have HW := Lib.hid (fun X h1 h2 => has1_any x y t Bt X true hv h1 h2)
        have HE : Hid (innB l t = true) := by show _ = _; rw [innB_any, List.any_eq_true]; exact ⟨_, HM.out, hv⟩
        clear hv
        go_wp2_with fail
        refine (HW.out _ HBT.out (by omega)).mono ?_
        rintro e w9 ⟨rfl, hb9⟩
        have HB9 := Lib.hid (HB.out.trans (hb9.mono hbz))
        clear hb9 c0 c1
        go_wp2
        go_ret
        exact ⟨⟨_, rfl, .inl ⟨HE.out, by omega⟩⟩, HB9.out⟩

set_option maxHeartbeats 1000000 in
theorem containsS_any (A : Option Addr) (c : Nat) (l : List Sp) (t : Int) (Bt : Nat) (w : World) (hs : SlS w w.heap.size A l) (hl : l.length ≤ 100000) (hb : w.cell? ⟨Bt, 0, none⟩ = some (.int .i64 t)) (hlt : Bt < w.heap.size) :
    Calls Tryz.prog 21 #[.slice A l.length c, .func (.func 22) #[] #[.pointer (some ⟨Bt, 0, none⟩)]] w fun e w' => e = .returned (.bool (innB l t)) ∧ Below w.heap.size w w' := by
  have HC := Lib.hid (indexS_any A c l t Bt w hs hl hb hlt)
  clear hs hb
  go_enter Tryz.func21, Tryz.ntmps21
  go_wp2_with fail
  refine HC.out.mono ?_
  rintro e w' ⟨⟨k, rfl, h⟩, hb⟩
  have HB := Lib.hid hb
  rcases h with ⟨h1, h2⟩ | ⟨h1, rfl⟩
  · have HE := Lib.hid h1
    have hd : decide ((0 : Int) ≤ k) = true := decide_eq_true h2
    clear h1 hb
    go_wp2
    go_ret
    exact ⟨by rw [HE.out]; rfl, HB.out⟩
  · have HE := Lib.hid h1
    clear h1 hb
    go_wp2
    go_ret
    exact ⟨by rw [HE.out]; rfl, HB.out⟩

set_option maxHeartbeats 1000000 in
theorem hasS_any (A : Option Addr) (c : Nat) (l : List Sp) (t : Int) (w : World) (hs : SlS w w.heap.size A l) (hl : l.length ≤ 100000) :
    Calls Tryz.prog 11 #[.slice A l.length c, .int .i64 t] w fun e w' => e = .returned (.bool (setB l && innB l t)) ∧ Below w.heap.size w w' := by
  have HB0 : Hid (Below w.heap.size w (w.alloc (.cells #[.int .i64 t] 2))) := (Below.refl _ _).alloc (Nat.le_refl _) _
  have HX := Lib.hid (Boxed.new w 2 (.int .i64 t))
  have HS := Lib.hid hs
  clear hs
  go_enter Tryz.func11, Tryz.ntmps11
  cases hv : setB l
  · have HIS := Lib.hid (fun X h => by have h9 := isSet_any A c l X h hl; rw [hv] at h9; exact h9)
    clear hv
    go_wp2_with fail
    refine (HIS.out _ ((HS.out.next HB0.out (Nat.le_refl _)).more HB0.out.size)).mono ?_
    rintro e w1 ⟨rfl, hb1⟩
    have HB1 := Lib.hid (HB0.out.trans (hb1.mono HB0.out.size))
    clear hb1
    go_wp2
    go_ret
    exact ⟨rfl, HB1.out⟩
  · have HIS := Lib.hid (fun X h => by have h9 := isSet_any A c l X h hl; rw [hv] at h9; exact h9)
    clear hv
    go_wp2_with fail
    refine (HIS.out _ ((HS.out.next HB0.out (Nat.le_refl _)).more HB0.out.size)).mono ?_
    rintro e w1 ⟨rfl, hb1⟩
    have HB1 := Lib.hid (HB0.out.trans (hb1.mono HB0.out.size))
    have HX1 := Lib.hid (show Boxed w1 _ _ _ from (hb1.block w.heap.size (by simp)).trans HX.out)
    have HS1 := Lib.hid ((HS.out.next HB1.out (Nat.le_refl _)).more HB1.out.size)
    clear hb1
    go_wp2_with fail
    refine (containsS_any A c l t w.heap.size _ HS1.out hl HX1.out.cell HX1.out.lt).mono ?_
    rintro e w2 ⟨rfl, hb2⟩
    have HB2 := Lib.hid (HB1.out.trans (hb2.mono HB1.out.size))
    clear hb2
    go_wp2
    go_ret
    exact ⟨rfl, HB2.out⟩
end Go.Proofs.YtfonmgpkbgdniaaGreatDoor

/-
  THE LAW SpanHas: its walk.
-/
namespace Go.Proofs.YtfonmgpkbgdniaaGreatDoor
open Go.RowKit Go.Shelf

theorem told_set {f : Nat → Bool} {a b l : List Sp} (h : chosenL f a b l) (ha : setB a = true) (hb : setB b = true) (hka : ∀ s ∈ a, SpOk s) (hkb : ∀ s ∈ b, SpOk s) : setB l = true ∧ (∀ s ∈ l, SpOk s) ∧ ∀ x, minT ≤ x → innB l x = decide (wants f (innB a x) (innB b x)) := by
  obtain ⟨r, hr, rfl⟩ := h
  obtain ⟨h1, h2, h3⟩ := told_pick hr (live_of ha hka) (live_of hb hkb) (Int.le_refl _) f [] setL_nil (fun _ h => by cases h)
  refine ⟨decide_eq_true h1, h2, fun x hx => ?_⟩
  unfold innB
  rw [decide_eq_decide]
  refine (h3 x).trans ⟨fun k => ?_, fun k => .inr ⟨hx, k⟩⟩
  rcases k with k | k
  · omega
  · exact k.2
theorem wantsAnd_is (x y : Bool) : decide (wants wantsAnd x y) = (x && y) := by cases x <;> cases y <;> decide
theorem wantsMinus_is (x y : Bool) : decide (wants wantsMinus x y) = (x && !y) := by cases x <;> cases y <;> decide
theorem wantsOr_is (x y : Bool) : decide (wants wantsOr x y) = (x || y) := by cases x <;> cases y <;> decide
theorem inn_max {l : List Sp} {t : Int} (hk : ∀ s ∈ l, SpOk s) (ht : t = 9223372036854775807) : innB l t = false := decide_eq_false fun ⟨s, hs, _, h2⟩ => by
  have := (hk s hs).2.2
  unfold maxT at this
  omega
theorem has_is (A : Option Addr) (c : Nat) (l : List Sp) (t : Int) (w : World) (v : Bool) (hv : (setB l && innB l t) = v) (hs : SlS w w.heap.size A l) (hl : l.length ≤ 100000) :
    Calls Tryz.prog 11 #[.slice A l.length c, .int .i64 t] w fun e w' => e = .returned (.bool v) ∧ Below w.heap.size w w' := by
  subst hv; exact hasS_any A c l t w hs hl
/-- an answer of Or, And, Minus, in slots' words -/
def chN (a b : List Sp) : Int := if (setB a && setB b) = true then 0 else 30
theorem chEnd_at {W W' : World} {f : Nat → Bool} {a b : List Sp} {e : Ending} (h : ChEnd W f a b e W') : (∃ A c l, e = .returned (.tuple #[.slice A l.length c, .int .i64 (chN a b)]) ∧ SlS W' W'.heap.size A l ∧ l.length ≤ c ∧ c ≤ maxLen ∧ ((setB a && setB b) = true → chosenL f a b l) ∧ l.length ≤ 2 * a.length + 2 * b.length) ∧ Below W.heap.size W W' := by
  obtain ⟨⟨h1, h2, l, v, h3, h4, rfl, h5⟩ | ⟨h1, rfl⟩, hb⟩ := h
  · obtain ⟨A, c, rfl, hs, k1, k2⟩ := h5.sls
    refine ⟨⟨A, c, l, ?_, hs, k1, k2, fun _ => h3, h4⟩, hb⟩
    unfold chN
    rw [h1, h2]; rfl
  · refine ⟨⟨none, 0, [], ?_, slS_nil _ _, Nat.le_refl _, Nat.zero_le _, fun h => (by rw [h1] at h; cases h), Nat.zero_le _⟩, hb⟩
    unfold chN
    rw [h1]; rfl

end Go.Proofs.YtfonmgpkbgdniaaGreatDoor

/-
  CONTRACTS: Covers; Same (of two lists of spans that are equal).
-/
namespace Go.Proofs.YtfonmgpkbgdniaaGreatDoor
open Go.RowKit Go.Shelf
attribute [local go_sem] Oper.semAt_some

theorem addL_ne (l : List Sp) (s : Sp) : addL l s ≠ [] := by
  rcases List.eq_nil_or_concat l with rfl | ⟨r, p, rfl⟩
  · rw [addL_nil]; simp
  · rw [List.concat_eq_append, addL_snoc]
    split <;> simp
def isTwo (n : Nat) : Bool := n == 2
theorem pick_ne : ∀ (r : List (Sp × Nat)) (acc : List Sp), (acc ≠ [] ∨ ∃ x ∈ r, x.2 = 2) → pickL isTwo acc r ≠ []
  | [], acc, h => by
    rcases h with h | ⟨x, hx, _⟩
    · exact h
    · cases hx
  | x :: r, acc, h => by
    rw [pickL_cons]
    refine pick_ne r _ ?_
    by_cases h2 : x.2 = 2
    · have : isTwo x.2 = true := by unfold isTwo; rw [h2]; rfl
      rw [if_pos this]
      exact .inl (addL_ne _ _)
    · have : ¬ isTwo x.2 = true := by unfold isTwo; simpa using h2
      rw [if_neg this]
      rcases h with h | ⟨y, hy, hy2⟩
      · exact .inl h
      · rcases List.mem_cons.1 hy with rfl | hy
        · exact absurd hy2 h2
        · exact .inr ⟨y, hy, hy2⟩
/-- has a set all of another one? -/
def Cov (a b : List Sp) : Prop := ∀ x, minT ≤ x → innB b x = true → innB a x = true
theorem wantsTwo_is (x y : Bool) : wants isTwo x y → x = false ∧ y = true := by cases x <;> cases y <;> decide
theorem told_two {a b : List Sp} {r : List (Sp × Nat)} (h : Told a b minT r) (ha : setB a = true) (hb : setB b = true) (hka : ∀ s ∈ a, SpOk s) (hkb : ∀ s ∈ b, SpOk s) (hc : Cov a b) : ∀ x ∈ r, x.2 ≠ 2 := fun x hx h2 => by
  obtain ⟨h1, h3, h4⟩ := told_pick h (live_of ha hka) (live_of hb hkb) (Int.le_refl _) isTwo [] setL_nil (fun _ h => by cases h)
  have hne := pick_ne r [] (.inr ⟨x, hx, h2⟩)
  cases hp : pickL isTwo [] r with
  | nil => exact hne hp
  | cons s l =>
    rw [hp] at h1 h3 h4
    have hs := (setL_cons.1 h1).1
    have hi := (h4 s.1).1 (inn_cons.2 (.inl ⟨Int.le_refl _, hs⟩))
    have hk := (h3 s (by simp)).1.1
    rcases hi with hi | ⟨_, hi⟩
    · omega
    · obtain ⟨e1, e2⟩ := wantsTwo_is _ _ hi
      have := hc s.1 hk e2
      rw [e1] at this
      cases this
/-- what stands behind some rounds: the answer so far -/
def QMid (w : World) (n1 : Nat) (N : Nat) (pre : List (Sp × Nat)) (W : World) : Prop :=
  Boxed W n1 4 (.bool true) ∧ Below w.heap.size w W ∧ pre.length ≤ N
theorem qMid_own (w : World) (n1 N : Nat) (h1 : w.heap.size ≤ n1) : OwnFrom (n1 + 3) (QMid w n1 N) := fun pre X Y row ⟨g1, g6, g8⟩ hg hr => by
  have hne : ∀ b, b < n1 + 3 → some b ≠ row := fun b hb e => by have := (hr b e.symm).1; omega
  exact ⟨g1.kept hg (hne _ (by omega)), g6.grown hg g6.size (fun j ej => by have := (hr j ej).1; omega), g8⟩

set_option maxRecDepth 100000 in
set_option maxHeartbeats 1000000 in
theorem covers_in (m : Nat) (hm3 : Hid (3 ≤ m)) (A A' : Option Addr) (c c' : Nat) (a b : List Sp) (w : World) (hs : SlS w w.heap.size A a) (hs' : SlS w w.heap.size A' b) (hlc : a.length ≤ c) (hc : c ≤ maxLen) (hlc' : b.length ≤ c') (hc' : c' ≤ maxLen)
    (hl : 2 * a.length + 2 * b.length ≤ 1000) (hka : ∀ s ∈ a, SpOk s) (hkb : ∀ s ∈ b, SpOk s) (hsa : setB a = true) (hsb : setB b = true) (hcv : Cov a b) :
    CallsIn Fence.wide m Tryz.prog 12 #[.slice A a.length c, .slice A' b.length c'] w fun e w' => e = .returned (.bool true) ∧ Below w.heap.size w w' := by
  have HS := Lib.hid (And.intro hs hs')
  have HL := Lib.hid (And.intro (And.intro hlc hc) (And.intro hlc' hc'))
  have HT2 : Hid (∀ r, Told a b minT r → ∀ x ∈ r, x.2 ≠ 2) := fun r hr => told_two hr hsa hsb hka hkb hcv
  have HLV := Lib.hid (And.intro (live_of hsa hka) (live_of hsb hkb))
  have HIA := Lib.hid (fun X h => isSet_is A c a X true hsa h (by omega))
  have HIB := Lib.hid (fun X h => isSet_is A' c' b X true hsb h (by omega))
  clear hs hs' hlc hc hlc' hc' hka hkb hsa hsb hcv
  refine callsIn_of_wp_marks Tryz.func12 rfl trivial ?_ rfl
  simp only [Tryz.ntmps12, List.size_toArray, List.length_cons, List.length_nil, Nat.reduceAdd, Nat.reduceSub, Array.replicate_succ, Array.replicate_zero, List.push_toArray, List.append_toArray, List.nil_append, List.cons_append]
  gi_wp2_with fail
  refine wpIn_wide.2 ?_
  go_step3
  refine (wpIn_wide (n := m)).1 ?_
  gi_wp2_with fail
  refine ⟨trivial, wide_deep _, ?_⟩
  refine (callsIn_wide.2 (HIA.out _ HS.out.1)).mono ?_
  rintro e w1 ⟨rfl, hb1⟩
  have HB1 := Lib.hid hb1
  clear hb1
  gi_wp2_with fail
  refine ⟨trivial, wide_deep _, ?_⟩
  refine (callsIn_wide.2 (HIB.out _ ((HS.out.2.next HB1.out (Nat.le_refl _)).more HB1.out.size))).mono ?_
  rintro e w2 ⟨rfl, hb2⟩
  have HB2 := Lib.hid (HB1.out.trans (hb2.mono HB1.out.size))
  clear hb2
  gi_wp2_with fail
  refine wpIn_wide.2 ?_
  go_step3
  gi_wp2_with fail
  refine ⟨trivial, wide_deep _, ?_⟩
  refine (callsIn_wide.2 (stoldOf_any _ _ _ _ _ _ _)).mono ?_
  rintro e w3 ⟨rfl, rfl⟩
  gi_wp2_with fail
  obtain ⟨W2, hW2⟩ : ∃ W2, (((w2.alloc (.cells #[.bool true] 4)).alloc (.cells #[.slice A a.length c] 24)).alloc (.cells #[.slice A' b.length c'] 24)) = W2 := ⟨_, rfl⟩
  have hz : W2.heap.size = w2.heap.size + 3 := by rw [← hW2]; simp
  have hbz := HB2.out.size
  have hBw : Below w.heap.size w W2 := by rw [← hW2]; exact ((HB2.out.alloc hbz _).alloc (by simp; omega) _).alloc (by simp; omega) _
  have hP : Boxed W2 w2.heap.size 4 (.bool true) := by rw [← hW2]; exact ((Boxed.new _ _ _).alloc _).alloc _
  have hV1 : Boxed W2 (w2.heap.size + 1) 24 (.slice A a.length c) := by
    rw [← hW2]
    have := Boxed.new (w2.alloc (.cells #[.bool true] 4)) 24 (.slice A a.length c)
    simp only [World.size_alloc] at this
    exact this.alloc _
  have hV2 : Boxed W2 (w2.heap.size + 1 + 1) 24 (.slice A' b.length c') := by
    rw [← hW2]
    have := Boxed.new ((w2.alloc (.cells #[.bool true] 4)).alloc (.cells #[.slice A a.length c] 24)) 24 (.slice A' b.length c')
    simp only [World.size_alloc] at this
    exact this
  rw [hW2]
  clear hW2
  have hro : Fence.wide.round = none := rfl
  obtain ⟨⟨hlc, hc⟩, hlc', hc'⟩ := HL.out
  refine wpIn_rangeFunc_ownH hro (by have := hm3.out; omega) (gf := 34) (lb := #[.pointer (some ⟨w2.heap.size + 1, 0, none⟩), .pointer (some ⟨w2.heap.size + 1 + 1, 0, none⟩)]) rfl trivial (enters_of Tryz.func34 (by kernel_rfl) rfl)
    (stold_stops (m - 1) w.heap.size (w2.heap.size + 1) (w2.heap.size + 1 + 1) (2 * a.length + 2 * b.length) A A' c c' a b W2 (by omega) (by omega) (by omega) (HS.out.1.next hBw (Nat.le_refl _)) (HS.out.2.next hBw (Nat.le_refl _)) hlc hc hlc' hc' HLV.out.1 HLV.out.2 (Nat.le_refl _) hV1.cell hV2.cell)
    (fun h k => h.trans k) (fun W l o o' hl h h1 h2 => belowK_b (w := W2) (n₀ := w.heap.size) (by omega) W l o o' hl h h1 h2) (Below.refl _ _) (fun _ => rfl)
    (QMid w w2.heap.size (2 * a.length + 2 * b.length)) (fun cd pre _ => ∃ x ∈ pre, x.2 = 2) (by rw [hz]; exact qMid_own _ _ _ hbz) (fun _ _ _ _ _ h _ _ => h)
    ⟨hP, hBw, by simp⟩
    (fun x a' W => a' = { tmps := #[.slice A a.length c, .slice A' b.length c', undef, undef, .bool false, .pointer (some ⟨w2.heap.size, 0, none⟩), undef, .int .i64 (x.2 : Int), .slice A a.length c, .bool true, .bool false, .bool false, .slice A' b.length c', .bool true, .bool false, .bool false, .slice A a.length c, .slice A' b.length c', .func (.func 34) #[] #[.pointer (some ⟨w2.heap.size + 1, 0, none⟩), .pointer (some ⟨w2.heap.size + 1 + 1, 0, none⟩)], .agg #[.int .i64 x.1.1, .int .i64 x.1.2], .int .i64 (x.2 : Int), undef, undef, undef, undef], defers := [] })
    (fun x a' _ X Y row e hgr hr => e) ?assign ?body ?done ?stop
  case assign =>
    rintro l pre x W K hM hK
    gi_wp2
    exact hK _ _ (KeepsFrom.refl _ _) (Below.refl _ _) hM rfl
  case body =>
    rintro l pre ⟨⟨x0, x1⟩, who⟩ a' W hwl _ ⟨h1, h6, h8⟩ rfl hlt
    have b0 := h1.cell
    have b1 := h1.frozen
    have H1 := Lib.hid h1
    have H6 := Lib.hid h6
    clear h1 h6
    by_cases h2 : who = 2
    · have HX : Hid (∃ x ∈ pre ++ [((x0, x1), who)], x.2 = 2) := ⟨((x0, x1), who), by simp, h2⟩
      have ht : ((who : Int) == 2) = true := by rw [h2]; rfl
      clear h2
      gi_wp2
      exact ⟨keepsFrom_set (p := ⟨w2.heap.size, 0, none⟩) H1.out _, HX.out⟩
    · have ht : ((who : Int) == 2) = false := by
        rw [beq_eq_false_iff_ne]
        omega
      have hpl2 : (pre ++ [((x0, x1), who)]).length ≤ 2 * a.length + 2 * b.length := by rw [List.length_append, List.length_singleton]; omega
      clear h2
      gi_wp2
      exact ⟨KeepsFrom.refl _ _, Below.refl _ _, H1.out, H6.out, hpl2⟩
  case done =>
    rintro D ys W hD hys ⟨h1, h6, h8⟩ hK
    have b0 := h1.cell
    have HE := Lib.hid (h6.trans (belowK_b (w := W2) (n₀ := w.heap.size) (by omega) W D _ (.deferred none) hD hK rfl rfl))
    clear h1 h6 h8 hys
    gi_wp2
    refine ⟨by simp, .inl ⟨_, _, rfl, run_takeDeferred hK, ?_⟩⟩
    exact ⟨_, results_tmp rfl _ _ _, by exact ⟨rfl, HE.out⟩⟩
  case stop =>
    rintro D cd pre W _ ⟨r, hr⟩ ⟨x, hx, h2⟩ _
    exact absurd h2 (HT2.out _ hr x (by simp [hx]))
end Go.Proofs.YtfonmgpkbgdniaaGreatDoor
