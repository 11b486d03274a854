import Derived.Test.YtlmihlepaoifiaaJFTurn
import Derived.Test.YtlmihlepaoifiaaJSSet
import Derived.Laws.StructEq
import Derived.Deep.Draws
import Derived.Test.YtlmihlepaoifiaaJSCov
import Derived.Test.YtlmihlepaoifiaaJSLeaf
import Derived.Test.YtlmihlepaoifiaaJDSl
/-
  CONTRACTS of the document's own answer: Two (what two sets are together).
-/
namespace Go.Proofs.Ytlmihlepaoifiaa
open Go.RowKit

/-- the document's answer for two sets -/
def twoL (f : Bool → Bool → Bool) (a b : List Sp) : List Sp := if setB a && setB b then ofL f a b [] (endsL (a ++ b)) else []
end Go.Proofs.Ytlmihlepaoifiaa

/-
  CONTRACTS of the document's own answer: Covers, Make.
-/
namespace Go.Proofs.Ytlmihlepaoifiaa
open Go.RowKit

def covB (a b : List Sp) : Bool := setB a && setB b && decide ((twoL notF b a).length = 0)
end Go.Proofs.Ytlmihlepaoifiaa

/-
  CONTRACT of the document's own answer: Make.
-/
namespace Go.Proofs.Ytlmihlepaoifiaa
open Go.RowKit

end Go.Proofs.Ytlmihlepaoifiaa

/-
  FACTS for the law SpanSets: what the program's answers are, in the document's words.
-/
namespace Go.Proofs.Ytlmihlepaoifiaa
open Go.RowKit Go.Shelf

theorem innB_iff {l : List Sp} {t : Int} : innB l t = true ↔ Inn l t := decide_eq_true_iff
theorem inn_lowB {l : List Sp} {x : Int} (hk : ∀ s ∈ l, SpOk s) (hx : x < minT) : innB l x = false := innB_no fun s hs h => by
  have := (hk s hs).1.1
  omega
theorem pick_none : ∀ (r : List (Sp × Nat)) (acc : List Sp), (∀ x ∈ r, x.2 ≠ 2) → pickL isTwo acc r = acc
  | [], _, _ => rfl
  | x :: r, acc, h => by
    have h2 : ¬ isTwo x.2 = true := by unfold isTwo; simpa using h x (by simp)
    rw [pickL_cons, if_neg h2]
    exact pick_none r acc fun y hy => h y (by simp [hy])
theorem wantsTwo_iff (x y : Bool) : decide (wants isTwo x y) = notF y x := by cases x <;> cases y <;> decide
/-- Covers, by what is told. -/
theorem told_covB {a b : List Sp} {r : List (Sp × Nat)} (h : Told a b minT r) (ha : setB a = true) (hb : setB b = true) (hka : ∀ s ∈ a, SpOk s) (hkb : ∀ s ∈ b, SpOk s) : covB a b = true ↔ ∀ x ∈ r, x.2 ≠ 2 := by
  obtain ⟨h1, h3, h4⟩ := told_pick h (live_of ha hka) (live_of hb hkb) (Int.le_refl _) isTwo [] setL_nil (fun _ h => by cases h)
  obtain ⟨g1, g2⟩ := of_set notF rfl b a
  have e1 : twoL notF b a = ofL notF b a [] (endsL (b ++ a)) := by unfold twoL; rw [ha, hb]; rfl
  have hP : pickL isTwo [] r = twoL notF b a := by
    rw [e1]
    refine set_ext h1 g1 fun t => ?_
    rw [h4 t, ← innB_iff (l := ofL _ _ _ _ _), g2 t, ← wantsTwo_iff, decide_eq_true_iff]
    refine ⟨fun k => ?_, fun k => .inr ⟨?_, k⟩⟩
    · rcases k with ⟨_, k⟩ | k
      · exact absurd k (inn_nil _)
      · exact k.2
    · by_cases ht : minT ≤ t
      · exact ht
      · have h9 := (wantsTwo_is _ _ k).2
        rw [inn_lowB hkb (by omega)] at h9
        cases h9
  unfold covB
  rw [ha, hb, ← hP]
  simp only [Bool.true_and, Bool.and_self, decide_eq_true_iff]
  refine ⟨fun k x hx h2 => ?_, fun k => ?_⟩
  · exact pick_ne r [] (.inr ⟨x, hx, h2⟩) (List.length_eq_zero_iff.1 k)
  · rw [pick_none r [] k]; rfl
theorem covB_unset {a b : List Sp} (h : (setB a && setB b) = false) : covB a b = false := by unfold covB; rw [h]; rfl
end Go.Proofs.Ytlmihlepaoifiaa

/-
  CONTRACT: Covers, as the document has it.
-/
namespace Go.Proofs.Ytlmihlepaoifiaa
open Go.RowKit Go.Shelf
attribute [local go_sem] Oper.semAt_some

/-- what stands behind some rounds -/
def RMidC (w : World) (n1 : Nat) (N : Nat) (pre : List (Sp × Nat)) (W : World) : Prop :=
  Boxed W n1 4 (.bool true) ∧ Below w.heap.size w W ∧ pre.length ≤ N ∧ ∀ x ∈ pre, x.2 ≠ 2
theorem rMidC_own (w : World) (n1 N : Nat) (h1 : w.heap.size ≤ n1) : OwnFrom (n1 + 3) (RMidC w n1 N) := fun pre X Y row ⟨g1, g6, g8, g9⟩ hg hr => by
  have hne : ∀ b, b < n1 + 3 → some b ≠ row := fun b hb e => by have := (hr b e.symm).1; omega
  exact ⟨g1.kept hg (hne _ (by omega)), g6.grown hg g6.size (fun j ej => by have := (hr j ej).1; omega), g8, g9⟩
/-- what stands where the loop stopped -/
def RStop (w : World) (n1 : Nat) (cd : Code) (pre : List (Sp × Nat)) (W : World) : Prop :=
  cd = .exit 0 ∧ Boxed W n1 4 (.bool false) ∧ Below w.heap.size w W ∧ ∃ x ∈ pre, x.2 = 2
theorem rStop_own (w : World) (n1 : Nat) (h1 : w.heap.size ≤ n1) (cd : Code) : OwnFrom (n1 + 3) (RStop w n1 cd) := fun pre X Y row ⟨e, g1, g6, g8⟩ hg hr => by
  have hne : ∀ b, b < n1 + 3 → some b ≠ row := fun b hb e => by have := (hr b e.symm).1; omega
  exact ⟨e, g1.kept hg (hne _ (by omega)), g6.grown hg g6.size (fun j ej => by have := (hr j ej).1; omega), g8⟩

set_option maxRecDepth 100000 in
set_option maxHeartbeats 1000000 in
theorem coversB_in (m : Nat) (hm3 : Hid (3 ≤ m)) (A A' : Option Addr) (c c' : Nat) (a b : List Sp) (w : World) (hs : SlS w w.heap.size A a) (hs' : SlS w w.heap.size A' b) (hlc : a.length ≤ c) (hc : c ≤ maxLen) (hlc' : b.length ≤ c') (hc' : c' ≤ maxLen)
    (hl : 2 * a.length + 2 * b.length ≤ 3000) (hka : ∀ s ∈ a, SpOk s) (hkb : ∀ s ∈ b, SpOk s) (hsa : setB a = true) (hsb : setB b = true) (cv : Bool) (hcv : covB a b = cv) :
    CallsIn Fence.wide m Try.prog 53 #[.slice A a.length c, .slice A' b.length c'] w fun e w' => e = .returned (.bool cv) ∧ Below w.heap.size w w' := by
  have HS := Lib.hid (And.intro hs hs')
  have HL := Lib.hid (And.intro (And.intro hlc hc) (And.intro hlc' hc'))
  have HT2 : Hid (∀ r, Told a b minT r → (cv = true ↔ ∀ x ∈ r, x.2 ≠ 2)) := fun r hr => by rw [← hcv]; exact told_covB hr hsa hsb hka hkb
  have HLV := Lib.hid (And.intro (live_of hsa hka) (live_of hsb hkb))
  have HIA := Lib.hid (fun X h => isSet_is A c a X true hsa h (by omega))
  have HIB := Lib.hid (fun X h => isSet_is A' c' b X true hsb h (by omega))
  clear hs hs' hlc hc hlc' hc' hka hkb hsa hsb hcv
  refine callsIn_of_wp_marks Try.func53 rfl trivial ?_ rfl
  simp only [Try.ntmps53, List.size_toArray, List.length_cons, List.length_nil, Nat.reduceAdd, Nat.reduceSub, Array.replicate_succ, Array.replicate_zero, List.push_toArray, List.append_toArray, List.nil_append, List.cons_append]
  gi_wp2_with fail
  refine wpIn_wide.2 ?_
  go_step3
  refine (wpIn_wide (n := m)).1 ?_
  gi_wp2_with fail
  refine ⟨trivial, wide_deep _, ?_⟩
  refine (callsIn_wide.2 (HIA.out _ HS.out.1)).mono ?_
  rintro e w1 ⟨rfl, hb1⟩
  have HB1 := Lib.hid hb1
  clear hb1
  gi_wp2_with fail
  refine ⟨trivial, wide_deep _, ?_⟩
  refine (callsIn_wide.2 (HIB.out _ ((HS.out.2.next HB1.out (Nat.le_refl _)).more HB1.out.size))).mono ?_
  rintro e w2 ⟨rfl, hb2⟩
  have HB2 := Lib.hid (HB1.out.trans (hb2.mono HB1.out.size))
  clear hb2
  gi_wp2_with fail
  refine wpIn_wide.2 ?_
  go_step3
  gi_wp2_with fail
  refine ⟨trivial, wide_deep _, ?_⟩
  refine (callsIn_wide.2 (stoldOf_any _ _ _ _ _ _ _)).mono ?_
  rintro e w3 ⟨rfl, rfl⟩
  gi_wp2_with fail
  obtain ⟨W2, hW2⟩ : ∃ W2, (((w2.alloc (.cells #[.bool true] 4)).alloc (.cells #[.slice A a.length c] 28)).alloc (.cells #[.slice A' b.length c'] 28)) = W2 := ⟨_, rfl⟩
  have hz : W2.heap.size = w2.heap.size + 3 := by rw [← hW2]; simp
  have hbz := HB2.out.size
  have hBw : Below w.heap.size w W2 := by rw [← hW2]; exact ((HB2.out.alloc hbz _).alloc (by simp; omega) _).alloc (by simp; omega) _
  have hP : Boxed W2 w2.heap.size 4 (.bool true) := by rw [← hW2]; exact ((Boxed.new _ _ _).alloc _).alloc _
  have hV1 : Boxed W2 (w2.heap.size + 1) 28 (.slice A a.length c) := by
    rw [← hW2]
    have := Boxed.new (w2.alloc (.cells #[.bool true] 4)) 28 (.slice A a.length c)
    simp only [World.size_alloc] at this
    exact this.alloc _
  have hV2 : Boxed W2 (w2.heap.size + 1 + 1) 28 (.slice A' b.length c') := by
    rw [← hW2]
    have := Boxed.new ((w2.alloc (.cells #[.bool true] 4)).alloc (.cells #[.slice A a.length c] 28)) 28 (.slice A' b.length c')
    simp only [World.size_alloc] at this
    exact this
  rw [hW2]
  clear hW2
  have hro : Fence.wide.round = none := rfl
  obtain ⟨⟨hlc, hc⟩, hlc', hc'⟩ := HL.out
  refine wpIn_rangeFunc_ownH hro (by have := hm3.out; omega) (gf := 82) (lb := #[.pointer (some ⟨w2.heap.size + 1, 0, none⟩), .pointer (some ⟨w2.heap.size + 1 + 1, 0, none⟩)]) rfl trivial (enters_of Try.func82 (by kernel_rfl) rfl)
    (stold_stops (m - 1) w.heap.size (w2.heap.size + 1) (w2.heap.size + 1 + 1) (2 * a.length + 2 * b.length) A A' c c' a b W2 (by omega) (by omega) (by omega) (HS.out.1.next hBw (Nat.le_refl _)) (HS.out.2.next hBw (Nat.le_refl _)) hlc hc hlc' hc' HLV.out.1 HLV.out.2 (Nat.le_refl _) hV1.cell hV2.cell)
    (fun h k => h.trans k) (fun W l o o' hl h h1 h2 => belowK_b (w := W2) (n₀ := w.heap.size) (by omega) W l o o' hl h h1 h2) (Below.refl _ _) (fun _ => rfl)
    (RMidC w w2.heap.size (2 * a.length + 2 * b.length)) (RStop w w2.heap.size) (by rw [hz]; exact rMidC_own _ _ _ hbz) (fun cd => by rw [hz]; exact rStop_own _ _ hbz cd)
    ⟨hP, hBw, by simp, fun x h => by cases h⟩
    (fun x a' W => a' = { tmps := #[.slice A a.length c, .slice A' b.length c', undef, undef, .bool false, .pointer (some ⟨w2.heap.size, 0, none⟩), undef, .int .i64 (x.2 : Int), .slice A a.length c, .bool true, .bool false, .bool false, .slice A' b.length c', .bool true, .bool false, .bool false, .slice A a.length c, .slice A' b.length c', .func (.func 82) #[] #[.pointer (some ⟨w2.heap.size + 1, 0, none⟩), .pointer (some ⟨w2.heap.size + 1 + 1, 0, none⟩)], .agg #[.int .i64 x.1.1, .int .i64 x.1.2], .int .i64 (x.2 : Int), undef, undef, undef, undef], defers := [] })
    (fun x a' _ X Y row e hgr hr => e) ?assign ?body ?done ?stop
  case assign =>
    rintro l pre x W K hM hK
    gi_wp2
    exact hK _ _ (KeepsFrom.refl _ _) (Below.refl _ _) hM rfl
  case body =>
    rintro l pre ⟨⟨x0, x1⟩, who⟩ a' W hwl _ ⟨h1, h6, h8, h9⟩ rfl hlt
    have b0 := h1.cell
    have b1 := h1.frozen
    have H1 := Lib.hid h1
    have H6 := Lib.hid h6
    have H9 := Lib.hid h9
    clear h1 h6 h9
    by_cases h2 : who = 2
    · have HX : Hid (∃ x ∈ pre ++ [((x0, x1), who)], x.2 = 2) := ⟨((x0, x1), who), by simp, h2⟩
      have ht : ((who : Int) == 2) = true := by rw [h2]; rfl
      clear h2
      gi_wp2
      exact ⟨keepsFrom_set (p := ⟨w2.heap.size, 0, none⟩) H1.out _, rfl, H1.out.set _, H6.out.setCell (p := ⟨w2.heap.size, 0, none⟩) hbz _, HX.out⟩
    · have ht : ((who : Int) == 2) = false := by
        rw [beq_eq_false_iff_ne]
        omega
      have HN : Hid (∀ x ∈ pre ++ [((x0, x1), who)], x.2 ≠ 2) := fun x hx => by
        rcases List.mem_append.1 hx with hx | hx
        · exact H9.out x hx
        · rw [List.mem_singleton.1 hx]; exact h2
      have hpl2 : (pre ++ [((x0, x1), who)]).length ≤ 2 * a.length + 2 * b.length := by rw [List.length_append, List.length_singleton]; omega
      clear h2
      gi_wp2
      exact ⟨KeepsFrom.refl _ _, Below.refl _ _, H1.out, H6.out, hpl2, HN.out⟩
  case done =>
    rintro D ys W hD hys ⟨h1, h6, h8, h9⟩ hK
    have b0 := h1.cell
    have HE := Lib.hid (h6.trans (belowK_b (w := W2) (n₀ := w.heap.size) (by omega) W D _ (.deferred none) hD hK rfl rfl))
    obtain rfl : cv = true := (HT2.out _ hys).2 h9
    clear h1 h6 h8 h9 hys
    gi_wp2
    refine ⟨by simp, .inl ⟨_, _, rfl, run_takeDeferred hK, ?_⟩⟩
    exact ⟨_, results_tmp rfl _ _ _, by exact ⟨rfl, HE.out⟩⟩
  case stop =>
    rintro D cd pre W hD ⟨r, hr⟩ ⟨rfl, h1, h6, x, hx, h2⟩ hK
    have b0 := h1.cell
    have HE := Lib.hid (h6.trans (belowK_b (w := W2) (n₀ := w.heap.size) (by omega) W D _ (.deferred none) hD hK rfl rfl))
    obtain rfl : cv = false := by
      cases cv with
      | false => rfl
      | true => exact absurd h2 ((HT2.out _ hr).1 rfl x (by simp [hx]))
    clear h1 h6 hx h2 hr
    gi_wp2
    refine ⟨by simp, .inl ⟨_, _, rfl, run_takeDeferred hK, ?_⟩⟩
    exact ⟨_, results_tmp rfl _ _ _, by exact ⟨rfl, HE.out⟩⟩

set_option maxRecDepth 100000 in
set_option maxHeartbeats 400000 in
theorem covers_unset (A A' : Option Addr) (c c' : Nat) (a b : List Sp) (w : World) (hs : SlS w w.heap.size A a) (hs' : SlS w w.heap.size A' b) (hla : a.length ≤ 3000) (hlb : b.length ≤ 3000) (hn : (setB a && setB b) = false) :
    Calls Try.prog 53 #[.slice A a.length c, .slice A' b.length c'] w fun e w' => e = .returned (.bool false) ∧ Below w.heap.size w w' := by
  have HS := Lib.hid hs'
  cases ha : setB a
  · have h1 := isSet_is A c a w false ha hs (by omega)
    have H1 := Lib.hid h1
    clear hs hs' hn ha h1
    go_enter Try.func53, Try.ntmps53
    go_wp2
    go_step3
    go_wp2_with fail
    refine H1.out.mono ?_
    rintro e w1 ⟨rfl, hb⟩
    have HB := Lib.hid hb
    clear hb
    go_wp2
    rw [Exit.noGoto_ret]
    go_ret
    exact ⟨rfl, HB.out⟩
  · have hb0 : setB b = false := by rw [ha] at hn; exact hn
    have H1 := Lib.hid (isSet_is A c a w true ha hs (by omega))
    have H2 := Lib.hid (fun X h => isSet_is A' c' b X false hb0 h (by omega))
    clear hs hs' hn ha hb0
    go_enter Try.func53, Try.ntmps53
    go_wp2
    go_step3
    go_wp2_with fail
    refine H1.out.mono ?_
    rintro e w1 ⟨rfl, hb⟩
    have HB := Lib.hid hb
    clear hb
    go_wp2_with fail
    refine (H2.out _ ((HS.out.next HB.out (Nat.le_refl _)).more HB.out.size)).mono ?_
    rintro e w2 ⟨rfl, hb⟩
    have HB2 := Lib.hid (HB.out.trans (hb.mono HB.out.size))
    clear hb
    go_wp2
    rw [Exit.noGoto_ret]
    go_ret
    exact ⟨rfl, HB2.out⟩
/-- Covers, as the document has it. -/
theorem coversS_any (A A' : Option Addr) (c c' : Nat) (a b : List Sp) (w : World) (hs : SlS w w.heap.size A a) (hs' : SlS w w.heap.size A' b) (hlc : a.length ≤ c) (hc : c ≤ maxLen) (hlc' : b.length ≤ c') (hc' : c' ≤ maxLen)
    (hl : 2 * a.length + 2 * b.length ≤ 3000) (hka : ∀ s ∈ a, SpOk s) (hkb : ∀ s ∈ b, SpOk s) :
    Calls Try.prog 53 #[.slice A a.length c, .slice A' b.length c'] w fun e w' => e = .returned (.bool (covB a b)) ∧ Below w.heap.size w w' := by
  cases h : (setB a && setB b)
  · rw [covB_unset h]
    exact covers_unset A A' c c' a b w hs hs' (by omega) (by omega) h
  · obtain ⟨h1, h2⟩ := Bool.and_eq_true_iff.1 h
    exact (callsIn_wide (n := 9)).1 (coversB_in 9 (Nat.le_of_ble_eq_true rfl) A A' c c' a b w hs hs' hlc hc hlc' hc' hl hka hkb h1 h2 _ rfl)
end Go.Proofs.Ytlmihlepaoifiaa
