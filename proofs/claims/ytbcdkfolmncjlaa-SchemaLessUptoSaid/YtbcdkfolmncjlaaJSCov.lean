/-
  CONTRACTS: Covers; Same (of two lists of spans that are equal).
-/
import Derived.WalkMore
import Derived.Test.YtbcdkfolmncjlaaJFThen
namespace Go.Proofs.Ytbcdkfolmncjlaa
open Go.RowKit Go.Shelf
attribute [local go_sem] Oper.semAt_some

theorem addL_ne (l : List Sp) (s : Sp) : addL l s ≠ [] := by
  rcases List.eq_nil_or_concat l with rfl | ⟨r, p, rfl⟩
  · rw [addL_nil]; simp
  · rw [List.concat_eq_append, addL_snoc]
    split <;> simp
def isTwo (n : Nat) : Bool := n == 2
theorem pick_ne : ∀ (r : List (Sp × Nat)) (acc : List Sp), (acc ≠ [] ∨ ∃ x ∈ r, x.2 = 2) → pickL isTwo acc r ≠ []
  | [], acc, h => by
    rcases h with h | ⟨x, hx, _⟩
    · exact h
    · cases hx
  | x :: r, acc, h => by
    rw [pickL_cons]
    refine pick_ne r _ ?_
    by_cases h2 : x.2 = 2
    · have : isTwo x.2 = true := by unfold isTwo; rw [h2]; rfl
      rw [if_pos this]
      exact .inl (addL_ne _ _)
    · have : ¬ isTwo x.2 = true := by unfold isTwo; simpa using h2
      rw [if_neg this]
      rcases h with h | ⟨y, hy, hy2⟩
      · exact .inl h
      · rcases List.mem_cons.1 hy with rfl | hy
        · exact absurd hy2 h2
        · exact .inr ⟨y, hy, hy2⟩
/-- has a set all of another one? -/
def Cov (a b : List Sp) : Prop := ∀ x, minT ≤ x → innB b x = true → innB a x = true
theorem wantsTwo_is (x y : Bool) : wants isTwo x y → x = false ∧ y = true := by cases x <;> cases y <;> decide
theorem told_two {a b : List Sp} {r : List (Sp × Nat)} (h : Told a b minT r) (ha : setB a = true) (hb : setB b = true) (hka : ∀ s ∈ a, SpOk s) (hkb : ∀ s ∈ b, SpOk s) (hc : Cov a b) : ∀ x ∈ r, x.2 ≠ 2 := fun x hx h2 => by
  obtain ⟨h1, h3, h4⟩ := told_pick h (live_of ha hka) (live_of hb hkb) (Int.le_refl _) isTwo [] setL_nil (fun _ h => by cases h)
  have hne := pick_ne r [] (.inr ⟨x, hx, h2⟩)
  cases hp : pickL isTwo [] r with
  | nil => exact hne hp
  | cons s l =>
    rw [hp] at h1 h3 h4
    have hs := (setL_cons.1 h1).1
    have hi := (h4 s.1).1 (inn_cons.2 (.inl ⟨Int.le_refl _, hs⟩))
    have hk := (h3 s (by simp)).1.1
    rcases hi with hi | ⟨_, hi⟩
    · omega
    · obtain ⟨e1, e2⟩ := wantsTwo_is _ _ hi
      have := hc s.1 hk e2
      rw [e1] at this
      cases this
/-- what stands behind some rounds: the answer so far -/
def QMid (w : World) (n1 : Nat) (N : Nat) (pre : List (Sp × Nat)) (W : World) : Prop :=
  Boxed W n1 4 (.bool true) ∧ Below w.heap.size w W ∧ pre.length ≤ N
theorem qMid_own (w : World) (n1 N : Nat) (h1 : w.heap.size ≤ n1) : OwnFrom (n1 + 3) (QMid w n1 N) := fun pre X Y row ⟨g1, g6, g8⟩ hg hr => by
  have hne : ∀ b, b < n1 + 3 → some b ≠ row := fun b hb e => by have := (hr b e.symm).1; omega
  exact ⟨g1.kept hg (hne _ (by omega)), g6.grown hg g6.size (fun j ej => by have := (hr j ej).1; omega), g8⟩

set_option maxRecDepth 100000 in
set_option maxHeartbeats 1000000 in
theorem covers_in (m : Nat) (hm3 : Hid (3 ≤ m)) (A A' : Option Addr) (c c' : Nat) (a b : List Sp) (w : World) (hs : SlS w w.heap.size A a) (hs' : SlS w w.heap.size A' b) (hlc : a.length ≤ c) (hc : c ≤ maxLen) (hlc' : b.length ≤ c') (hc' : c' ≤ maxLen)
    (hl : 2 * a.length + 2 * b.length ≤ 3000) (hka : ∀ s ∈ a, SpOk s) (hkb : ∀ s ∈ b, SpOk s) (hsa : setB a = true) (hsb : setB b = true) (hcv : Cov a b) :
    CallsIn Fence.wide m Try.prog 59 #[.slice A a.length c, .slice A' b.length c'] w fun e w' => e = .returned (.bool true) ∧ Below w.heap.size w w' := by
  have HS := Lib.hid (And.intro hs hs')
  have HL := Lib.hid (And.intro (And.intro hlc hc) (And.intro hlc' hc'))
  have HT2 : Hid (∀ r, Told a b minT r → ∀ x ∈ r, x.2 ≠ 2) := fun r hr => told_two hr hsa hsb hka hkb hcv
  have HLV := Lib.hid (And.intro (live_of hsa hka) (live_of hsb hkb))
  have HIA := Lib.hid (fun X h => isSet_is A c a X true hsa h (by omega))
  have HIB := Lib.hid (fun X h => isSet_is A' c' b X true hsb h (by omega))
  clear hs hs' hlc hc hlc' hc' hka hkb hsa hsb hcv
  refine callsIn_of_wp_marks Try.func59 rfl trivial ?_ rfl
  simp only [Try.ntmps59, List.size_toArray, List.length_cons, List.length_nil, Nat.reduceAdd, Nat.reduceSub, Array.replicate_succ, Array.replicate_zero, List.push_toArray, List.append_toArray, List.nil_append, List.cons_append]
  gi_wp2_with fail
  refine wpIn_wide.2 ?_
  go_step3
  refine (wpIn_wide (n := m)).1 ?_
  gi_wp2_with fail
  refine ⟨trivial, wide_deep _, ?_⟩
  refine (callsIn_wide.2 (HIA.out _ HS.out.1)).mono ?_
  rintro e w1 ⟨rfl, hb1⟩
  have HB1 := Lib.hid hb1
  clear hb1
  gi_wp2_with fail
  refine ⟨trivial, wide_deep _, ?_⟩
  refine (callsIn_wide.2 (HIB.out _ ((HS.out.2.next HB1.out (Nat.le_refl _)).more HB1.out.size))).mono ?_
  rintro e w2 ⟨rfl, hb2⟩
  have HB2 := Lib.hid (HB1.out.trans (hb2.mono HB1.out.size))
  clear hb2
  gi_wp2_with fail
  refine wpIn_wide.2 ?_
  go_step3
  gi_wp2_with fail
  refine ⟨trivial, wide_deep _, ?_⟩
  refine (callsIn_wide.2 (stoldOf_any _ _ _ _ _ _ _)).mono ?_
  rintro e w3 ⟨rfl, rfl⟩
  gi_wp2_with fail
  obtain ⟨W2, hW2⟩ : ∃ W2, (((w2.alloc (.cells #[.bool true] 4)).alloc (.cells #[.slice A a.length c] 28)).alloc (.cells #[.slice A' b.length c'] 28)) = W2 := ⟨_, rfl⟩
  have hz : W2.heap.size = w2.heap.size + 3 := by rw [← hW2]; simp
  have hbz := HB2.out.size
  have hBw : Below w.heap.size w W2 := by rw [← hW2]; exact ((HB2.out.alloc hbz _).alloc (by simp; omega) _).alloc (by simp; omega) _
  have hP : Boxed W2 w2.heap.size 4 (.bool true) := by rw [← hW2]; exact ((Boxed.new _ _ _).alloc _).alloc _
  have hV1 : Boxed W2 (w2.heap.size + 1) 28 (.slice A a.length c) := by
    rw [← hW2]
    have := Boxed.new (w2.alloc (.cells #[.bool true] 4)) 28 (.slice A a.length c)
    simp only [World.size_alloc] at this
    exact this.alloc _
  have hV2 : Boxed W2 (w2.heap.size + 1 + 1) 28 (.slice A' b.length c') := by
    rw [← hW2]
    have := Boxed.new ((w2.alloc (.cells #[.bool true] 4)).alloc (.cells #[.slice A a.length c] 28)) 28 (.slice A' b.length c')
    simp only [World.size_alloc] at this
    exact this
  rw [hW2]
  clear hW2
  have hro : Fence.wide.round = none := rfl
  obtain ⟨⟨hlc, hc⟩, hlc', hc'⟩ := HL.out
  refine wpIn_rangeFunc_ownH hro (by have := hm3.out; omega) (gf := 88) (lb := #[.pointer (some ⟨w2.heap.size + 1, 0, none⟩), .pointer (some ⟨w2.heap.size + 1 + 1, 0, none⟩)]) rfl trivial (enters_of Try.func88 (by kernel_rfl) rfl)
    (stold_stops (m - 1) w.heap.size (w2.heap.size + 1) (w2.heap.size + 1 + 1) (2 * a.length + 2 * b.length) A A' c c' a b W2 (by omega) (by omega) (by omega) (HS.out.1.next hBw (Nat.le_refl _)) (HS.out.2.next hBw (Nat.le_refl _)) hlc hc hlc' hc' HLV.out.1 HLV.out.2 (Nat.le_refl _) hV1.cell hV2.cell)
    (fun h k => h.trans k) (fun W l o o' hl h h1 h2 => belowK_b (w := W2) (n₀ := w.heap.size) (by omega) W l o o' hl h h1 h2) (Below.refl _ _) (fun _ => rfl)
    (QMid w w2.heap.size (2 * a.length + 2 * b.length)) (fun cd pre _ => ∃ x ∈ pre, x.2 = 2) (by rw [hz]; exact qMid_own _ _ _ hbz) (fun _ _ _ _ _ h _ _ => h)
    ⟨hP, hBw, by simp⟩
    (fun x a' W => a' = { tmps := #[.slice A a.length c, .slice A' b.length c', undef, undef, .bool false, .pointer (some ⟨w2.heap.size, 0, none⟩), undef, .int .i64 (x.2 : Int), .slice A a.length c, .bool true, .bool false, .bool false, .slice A' b.length c', .bool true, .bool false, .bool false, .slice A a.length c, .slice A' b.length c', .func (.func 88) #[] #[.pointer (some ⟨w2.heap.size + 1, 0, none⟩), .pointer (some ⟨w2.heap.size + 1 + 1, 0, none⟩)], .agg #[.int .i64 x.1.1, .int .i64 x.1.2], .int .i64 (x.2 : Int), undef, undef, undef, undef], defers := [] })
    (fun x a' _ X Y row e hgr hr => e) ?assign ?body ?done ?stop
  case assign =>
    rintro l pre x W K hM hK
    gi_wp2
    exact hK _ _ (KeepsFrom.refl _ _) (Below.refl _ _) hM rfl
  case body =>
    rintro l pre ⟨⟨x0, x1⟩, who⟩ a' W hwl _ ⟨h1, h6, h8⟩ rfl hlt
    have b0 := h1.cell
    have b1 := h1.frozen
    have H1 := Lib.hid h1
    have H6 := Lib.hid h6
    clear h1 h6
    by_cases h2 : who = 2
    · have HX : Hid (∃ x ∈ pre ++ [((x0, x1), who)], x.2 = 2) := ⟨((x0, x1), who), by simp, h2⟩
      have ht : ((who : Int) == 2) = true := by rw [h2]; rfl
      clear h2
      gi_wp2
      exact ⟨keepsFrom_set (p := ⟨w2.heap.size, 0, none⟩) H1.out _, HX.out⟩
    · have ht : ((who : Int) == 2) = false := by
        rw [beq_eq_false_iff_ne]
        omega
      have hpl2 : (pre ++ [((x0, x1), who)]).length ≤ 2 * a.length + 2 * b.length := by rw [List.length_append, List.length_singleton]; omega
      clear h2
      gi_wp2
      exact ⟨KeepsFrom.refl _ _, Below.refl _ _, H1.out, H6.out, hpl2⟩
  case done =>
    rintro D ys W hD hys ⟨h1, h6, h8⟩ hK
    have b0 := h1.cell
    have HE := Lib.hid (h6.trans (belowK_b (w := W2) (n₀ := w.heap.size) (by omega) W D _ (.deferred none) hD hK rfl rfl))
    clear h1 h6 h8 hys
    gi_wp2
    refine ⟨by simp, .inl ⟨_, _, rfl, run_takeDeferred hK, ?_⟩⟩
    exact ⟨_, results_tmp rfl _ _ _, by exact ⟨rfl, HE.out⟩⟩
  case stop =>
    rintro D cd pre W _ ⟨r, hr⟩ ⟨x, hx, h2⟩ _
    exact absurd h2 (HT2.out _ hr x (by simp [hx]))
end Go.Proofs.Ytbcdkfolmncjlaa
