import Derived.Test.YtlmihlepaoifiaaGreatJSLaw
import Derived.Test.YtlmihlepaoifiaaGreatJHMap
/-
  CONTRACT: Covers, as the document has it.
-/
namespace Go.Proofs.YtlmihlepaoifiaaGreat
open Go.RowKit Go.Shelf
attribute [local go_sem] Oper.semAt_some

/-- what stands behind some rounds -/
def RMidC (w : World) (n1 : Nat) (N : Nat) (pre : List (Sp × Nat)) (W : World) : Prop :=
  Boxed W n1 4 (.bool true) ∧ Below w.heap.size w W ∧ pre.length ≤ N ∧ ∀ x ∈ pre, x.2 ≠ 2
theorem rMidC_own (w : World) (n1 N : Nat) (h1 : w.heap.size ≤ n1) : OwnFrom (n1 + 3) (RMidC w n1 N) := fun pre X Y row ⟨g1, g6, g8, g9⟩ hg hr => by
  have hne : ∀ b, b < n1 + 3 → some b ≠ row := fun b hb e => by have := (hr b e.symm).1; omega
  exact ⟨g1.kept hg (hne _ (by omega)), g6.grown hg g6.size (fun j ej => by have := (hr j ej).1; omega), g8, g9⟩
/-- what stands where the loop stopped -/
def RStop (w : World) (n1 : Nat) (cd : Code) (pre : List (Sp × Nat)) (W : World) : Prop :=
  cd = .exit 0 ∧ Boxed W n1 4 (.bool false) ∧ Below w.heap.size w W ∧ ∃ x ∈ pre, x.2 = 2
theorem rStop_own (w : World) (n1 : Nat) (h1 : w.heap.size ≤ n1) (cd : Code) : OwnFrom (n1 + 3) (RStop w n1 cd) := fun pre X Y row ⟨e, g1, g6, g8⟩ hg hr => by
  have hne : ∀ b, b < n1 + 3 → some b ≠ row := fun b hb e => by have := (hr b e.symm).1; omega
  exact ⟨e, g1.kept hg (hne _ (by omega)), g6.grown hg g6.size (fun j ej => by have := (hr j ej).1; omega), g8⟩

set_option maxRecDepth 100000 in
set_option maxHeartbeats 1000000 in
theorem coversB_in (m : Nat) (hm3 : Hid (3 ≤ m)) (A A' : Option Addr) (c c' : Nat) (a b : List Sp) (w : World) (hs : SlS w w.heap.size A a) (hs' : SlS w w.heap.size A' b) (hlc : a.length ≤ c) (hc : c ≤ maxLen) (hlc' : b.length ≤ c') (hc' : c' ≤ maxLen)
    (hl : 2 * a.length + 2 * b.length ≤ 3000) (hka : ∀ s ∈ a, SpOk s) (hkb : ∀ s ∈ b, SpOk s) (hsa : setB a = true) (hsb : setB b = true) (cv : Bool) (hcv : covB a b = cv) :
    CallsIn Fence.wide m Tryz.prog 53 #[.slice A a.length c, .slice A' b.length c'] w fun e w' => e = .returned (.bool cv) ∧ Below w.heap.size w w' := by
  have HS := Lib.hid (And.intro hs hs')
  have HL := Lib.hid (And.intro (And.intro hlc hc) (And.intro hlc' hc'))
  have HT2 : Hid (∀ r, Told a b minT r → (cv = true ↔ ∀ x ∈ r, x.2 ≠ 2)) := fun r hr => by rw [← hcv]; exact told_covB hr hsa hsb hka hkb
  have HLV := Lib.hid (And.intro (live_of hsa hka) (live_of hsb hkb))
  have HIA := Lib.hid (fun X h => isSet_is A c a X true hsa h (by omega))
  have HIB := Lib.hid (fun X h => isSet_is A' c' b X true hsb h (by omega))
  clear hs hs' hlc hc hlc' hc' hka hkb hsa hsb hcv
  refine callsIn_of_wp_marks Tryz.func53 rfl trivial ?_ rfl
  simp only [Tryz.ntmps53, List.size_toArray, List.length_cons, List.length_nil, Nat.reduceAdd, Nat.reduceSub, Array.replicate_succ, Array.replicate_zero, List.push_toArray, List.append_toArray, List.nil_append, List.cons_append]
  gi_wp2_with fail
  refine wpIn_wide.2 ?_
  go_step3
  refine (wpIn_wide (n := m)).1 ?_
  gi_wp2_with fail
  refine ⟨trivial, wide_deep _, ?_⟩
  refine (callsIn_wide.2 (HIA.out _ HS.out.1)).mono ?_
  rintro e w1 ⟨rfl, hb1⟩
  have HB1 := Lib.hid hb1
  clear hb1
  gi_wp2_with fail
  refine ⟨trivial, wide_deep _, ?_⟩
  refine (callsIn_wide.2 (HIB.out _ ((HS.out.2.next HB1.out (Nat.le_refl _)).more HB1.out.size))).mono ?_
  rintro e w2 ⟨rfl, hb2⟩
  have HB2 := Lib.hid (HB1.out.trans (hb2.mono HB1.out.size))
  clear hb2
  gi_wp2_with fail
  refine wpIn_wide.2 ?_
  go_step3
  gi_wp2_with fail
  refine ⟨trivial, wide_deep _, ?_⟩
  refine (callsIn_wide.2 (stoldOf_any _ _ _ _ _ _ _)).mono ?_
  rintro e w3 ⟨rfl, rfl⟩
  gi_wp2_with fail
  obtain ⟨W2, hW2⟩ : ∃ W2, (((w2.alloc (.cells #[.bool true] 4)).alloc (.cells #[.slice A a.length c] 29)).alloc (.cells #[.slice A' b.length c'] 29)) = W2 := ⟨_, rfl⟩
  have hz : W2.heap.size = w2.heap.size + 3 := by rw [← hW2]; simp
  have hbz := HB2.out.size
  have hBw : Below w.heap.size w W2 := by rw [← hW2]; exact ((HB2.out.alloc hbz _).alloc (by simp; omega) _).alloc (by simp; omega) _
  have hP : Boxed W2 w2.heap.size 4 (.bool true) := by rw [← hW2]; exact ((Boxed.new _ _ _).alloc _).alloc _
  have hV1 : Boxed W2 (w2.heap.size + 1) 29 (.slice A a.length c) := by
    rw [← hW2]
    have := Boxed.new (w2.alloc (.cells #[.bool true] 4)) 29 (.slice A a.length c)
    simp only [World.size_alloc] at this
    exact this.alloc _
  have hV2 : Boxed W2 (w2.heap.size + 1 + 1) 29 (.slice A' b.length c') := by
    rw [← hW2]
    have := Boxed.new ((w2.alloc (.cells #[.bool true] 4)).alloc (.cells #[.slice A a.length c] 29)) 29 (.slice A' b.length c')
    simp only [World.size_alloc] at this
    exact this
  rw [hW2]
  clear hW2
  have hro : Fence.wide.round = none := rfl
  obtain ⟨⟨hlc, hc⟩, hlc', hc'⟩ := HL.out
  refine wpIn_rangeFunc_ownH hro (by have := hm3.out; omega) (gf := 93) (lb := #[.pointer (some ⟨w2.heap.size + 1, 0, none⟩), .pointer (some ⟨w2.heap.size + 1 + 1, 0, none⟩)]) rfl trivial (enters_of Tryz.func93 (by kernel_rfl) rfl)
    (stold_stops (m - 1) w.heap.size (w2.heap.size + 1) (w2.heap.size + 1 + 1) (2 * a.length + 2 * b.length) A A' c c' a b W2 (by omega) (by omega) (by omega) (HS.out.1.next hBw (Nat.le_refl _)) (HS.out.2.next hBw (Nat.le_refl _)) hlc hc hlc' hc' HLV.out.1 HLV.out.2 (Nat.le_refl _) hV1.cell hV2.cell)
    (fun h k => h.trans k) (fun W l o o' hl h h1 h2 => belowK_b (w := W2) (n₀ := w.heap.size) (by omega) W l o o' hl h h1 h2) (Below.refl _ _) (fun _ => rfl)
    (RMidC w w2.heap.size (2 * a.length + 2 * b.length)) (RStop w w2.heap.size) (by rw [hz]; exact rMidC_own _ _ _ hbz) (fun cd => by rw [hz]; exact rStop_own _ _ hbz cd)
    ⟨hP, hBw, by simp, fun x h => by cases h⟩
    (fun x a' W => a' = { tmps := #[.slice A a.length c, .slice A' b.length c', undef, undef, .bool false, .pointer (some ⟨w2.heap.size, 0, none⟩), undef, .int .i64 (x.2 : Int), .slice A a.length c, .bool true, .bool false, .bool false, .slice A' b.length c', .bool true, .bool false, .bool false, .slice A a.length c, .slice A' b.length c', .func (.func 93) #[] #[.pointer (some ⟨w2.heap.size + 1, 0, none⟩), .pointer (some ⟨w2.heap.size + 1 + 1, 0, none⟩)], .agg #[.int .i64 x.1.1, .int .i64 x.1.2], .int .i64 (x.2 : Int), undef, undef, undef, undef], defers := [] })
    (fun x a' _ X Y row e hgr hr => e) ?assign ?body ?done ?stop
  case assign =>
    rintro l pre x W K hM hK
    gi_wp2
    exact hK _ _ (KeepsFrom.refl _ _) (Below.refl _ _) hM rfl
  case body =>
    rintro l pre ⟨⟨x0, x1⟩, who⟩ a' W hwl _ ⟨h1, h6, h8, h9⟩ rfl hlt
    have b0 := h1.cell
    have b1 := h1.frozen
    have H1 := Lib.hid h1
    have H6 := Lib.hid h6
    have H9 := Lib.hid h9
    clear h1 h6 h9
    by_cases h2 : who = 2
    · have HX : Hid (∃ x ∈ pre ++ [((x0, x1), who)], x.2 = 2) := ⟨((x0, x1), who), by simp, h2⟩
      have ht : ((who : Int) == 2) = true := by rw [h2]; rfl
      clear h2
      gi_wp2
      exact ⟨keepsFrom_set (p := ⟨w2.heap.size, 0, none⟩) H1.out _, rfl, H1.out.set _, H6.out.setCell (p := ⟨w2.heap.size, 0, none⟩) hbz _, HX.out⟩
    · have ht : ((who : Int) == 2) = false := by
        rw [beq_eq_false_iff_ne]
        omega
      have HN : Hid (∀ x ∈ pre ++ [((x0, x1), who)], x.2 ≠ 2) := fun x hx => by
        rcases List.mem_append.1 hx with hx | hx
        · exact H9.out x hx
        · rw [List.mem_singleton.1 hx]; exact h2
      have hpl2 : (pre ++ [((x0, x1), who)]).length ≤ 2 * a.length + 2 * b.length := by rw [List.length_append, List.length_singleton]; omega
      clear h2
      gi_wp2
      exact ⟨KeepsFrom.refl _ _, Below.refl _ _, H1.out, H6.out, hpl2, HN.out⟩
  case done =>
    rintro D ys W hD hys ⟨h1, h6, h8, h9⟩ hK
    have b0 := h1.cell
    have HE := Lib.hid (h6.trans (belowK_b (w := W2) (n₀ := w.heap.size) (by omega) W D _ (.deferred none) hD hK rfl rfl))
    obtain rfl : cv = true := (HT2.out _ hys).2 h9
    clear h1 h6 h8 h9 hys
    gi_wp2
    refine ⟨by simp, .inl ⟨_, _, rfl, run_takeDeferred hK, ?_⟩⟩
    exact ⟨_, results_tmp rfl _ _ _, by exact ⟨rfl, HE.out⟩⟩
  case stop =>
    rintro D cd pre W hD ⟨r, hr⟩ ⟨rfl, h1, h6, x, hx, h2⟩ hK
    have b0 := h1.cell
    have HE := Lib.hid (h6.trans (belowK_b (w := W2) (n₀ := w.heap.size) (by omega) W D _ (.deferred none) hD hK rfl rfl))
    obtain rfl : cv = false := by
      cases cv with
      | false => rfl
      | true => exact absurd h2 ((HT2.out _ hr).1 rfl x (by simp [hx]))
    clear h1 h6 hx h2 hr
    gi_wp2
    refine ⟨by simp, .inl ⟨_, _, rfl, run_takeDeferred hK, ?_⟩⟩
    exact ⟨_, results_tmp rfl _ _ _, by exact ⟨rfl, HE.out⟩⟩

set_option maxRecDepth 100000 in
set_option maxHeartbeats 400000 in
theorem covers_unset (A A' : Option Addr) (c c' : Nat) (a b : List Sp) (w : World) (hs : SlS w w.heap.size A a) (hs' : SlS w w.heap.size A' b) (hla : a.length ≤ 3000) (hlb : b.length ≤ 3000) (hn : (setB a && setB b) = false) :
    Calls Tryz.prog 53 #[.slice A a.length c, .slice A' b.length c'] w fun e w' => e = .returned (.bool false) ∧ Below w.heap.size w w' := by
  have HS := Lib.hid hs'
  cases ha : setB a
  · have h1 := isSet_is A c a w false ha hs (by omega)
    have H1 := Lib.hid h1
    clear hs hs' hn ha h1
    go_enter Tryz.func53, Tryz.ntmps53
    go_wp2
    go_step3
    go_wp2_with fail
    refine H1.out.mono ?_
    rintro e w1 ⟨rfl, hb⟩
    have HB := Lib.hid hb
    clear hb
    go_wp2
    rw [Exit.noGoto_ret]
    go_ret
    exact ⟨rfl, HB.out⟩
  · have hb0 : setB b = false := by rw [ha] at hn; exact hn
    have H1 := Lib.hid (isSet_is A c a w true ha hs (by omega))
    have H2 := Lib.hid (fun X h => isSet_is A' c' b X false hb0 h (by omega))
    clear hs hs' hn ha hb0
    go_enter Tryz.func53, Tryz.ntmps53
    go_wp2
    go_step3
    go_wp2_with fail
    refine H1.out.mono ?_
    rintro e w1 ⟨rfl, hb⟩
    have HB := Lib.hid hb
    clear hb
    go_wp2_with fail
    refine (H2.out _ ((HS.out.next HB.out (Nat.le_refl _)).more HB.out.size)).mono ?_
    rintro e w2 ⟨rfl, hb⟩
    have HB2 := Lib.hid (HB.out.trans (hb.mono HB.out.size))
    clear hb
    go_wp2
    rw [Exit.noGoto_ret]
    go_ret
    exact ⟨rfl, HB2.out⟩
/-- Covers, as the document has it. -/
theorem coversS_any (A A' : Option Addr) (c c' : Nat) (a b : List Sp) (w : World) (hs : SlS w w.heap.size A a) (hs' : SlS w w.heap.size A' b) (hlc : a.length ≤ c) (hc : c ≤ maxLen) (hlc' : b.length ≤ c') (hc' : c' ≤ maxLen)
    (hl : 2 * a.length + 2 * b.length ≤ 3000) (hka : ∀ s ∈ a, SpOk s) (hkb : ∀ s ∈ b, SpOk s) :
    Calls Tryz.prog 53 #[.slice A a.length c, .slice A' b.length c'] w fun e w' => e = .returned (.bool (covB a b)) ∧ Below w.heap.size w w' := by
  cases h : (setB a && setB b)
  · rw [covB_unset h]
    exact covers_unset A A' c c' a b w hs hs' (by omega) (by omega) h
  · obtain ⟨h1, h2⟩ := Bool.and_eq_true_iff.1 h
    exact (callsIn_wide (n := 9)).1 (coversB_in 9 (Nat.le_of_ble_eq_true rfl) A A' c c' a b w hs hs' hlc hc hlc' hc' hl hka hkb h1 h2 _ rfl)
end Go.Proofs.YtlmihlepaoifiaaGreat

/-
  CONTRACTS over facts: makesAttr, inRange, isWhole; the closures of the rows that ask one fact.
-/
namespace Go.Proofs.YtlmihlepaoifiaaGreat
open Go.RowKit Go.Maps Go.Shelf

def mkB (f : FactP) : Bool := decide (10 ≤ f.e) && (decide (f.a = 1) || decide (f.a = 2))
def rgB (f : FactP) : Bool := if f.a = 2 then decide (1 ≤ f.m) && decide (f.m ≤ 7) else if f.a = 4 then decide (0 ≤ f.m) && decide (f.m ≤ 2) else true
set_option maxRecDepth 100000 in
set_option maxHeartbeats 1000000 in
theorem makes_any (f : FactP) (A : Option Addr) (n c : Nat) (w : World) :
    Calls Tryz.prog 22 #[.agg #[.int .i64 f.e, .int .i64 f.a, .int .i64 f.k, .int .i64 f.m, .string f.s, .slice A n c]] w fun e w' => e = .returned (.bool (mkB f)) ∧ Below w.heap.size w w' := by
  have HM : Hid (mkB f = (decide (10 ≤ f.e) && (decide (f.a = 1) || decide (f.a = 2)))) := rfl
  obtain ⟨g, hg⟩ : ∃ g, mkB f = g := ⟨_, rfl⟩
  have HG := Lib.hid hg
  obtain ⟨fe, fa, fk, fm, fs, fl⟩ := f
  rw [hg] at HM
  simp only at HM
  rw [hg]
  clear hg
  by_cases h1 : 10 ≤ fe
  · have d1 : decide (10 ≤ fe) = true := decide_eq_true h1
    by_cases h2 : fa = 1
    · subst h2
      have HR : Hid (g = true) := by show _ = _; rw [HM.out, d1]; rfl
      go_enter Tryz.func22, Tryz.ntmps22
      go_wp2
      go_ret
      exact ⟨by rw [HR.out]; rfl, (Below.refl _ _).alloc (Nat.le_refl _) _⟩
    · have d2 : (fa == 1) = false := beq_eq_false_iff_ne.2 h2
      by_cases h3 : fa = 2
      · subst h3
        have HR : Hid (g = true) := by show _ = _; rw [HM.out, d1]; rfl
        go_enter Tryz.func22, Tryz.ntmps22
        go_wp2
        go_ret
        exact ⟨by rw [HR.out]; rfl, (Below.refl _ _).alloc (Nat.le_refl _) _⟩
      · have d3 : (fa == 2) = false := beq_eq_false_iff_ne.2 h3
        have HR : Hid (g = false) := by show _ = _; rw [HM.out, d1, decide_eq_false h2, decide_eq_false h3]; rfl
        go_enter Tryz.func22, Tryz.ntmps22
        go_wp2
        go_ret
        exact ⟨by rw [HR.out]; rfl, (Below.refl _ _).alloc (Nat.le_refl _) _⟩
  · have d1 : decide (10 ≤ fe) = false := decide_eq_false h1
    have HR : Hid (g = false) := by show _ = _; rw [HM.out, d1]; rfl
    go_enter Tryz.func22, Tryz.ntmps22
    go_wp2
    go_ret
    exact ⟨by rw [HR.out]; rfl, (Below.refl _ _).alloc (Nat.le_refl _) _⟩
set_option maxRecDepth 100000 in
set_option maxHeartbeats 1000000 in
theorem inRange_any (f : FactP) (A : Option Addr) (n c : Nat) (w : World) :
    Calls Tryz.prog 23 #[.agg #[.int .i64 f.e, .int .i64 f.a, .int .i64 f.k, .int .i64 f.m, .string f.s, .slice A n c]] w fun e w' => e = .returned (.bool (rgB f)) ∧ Below w.heap.size w w' := by
  obtain ⟨fe, fa, fk, fm, fs, fl⟩ := f
  by_cases h2 : fa = 2
  · subst h2
    have HM : Hid (rgB ⟨fe, 2, fk, fm, fs, fl⟩ = (decide (1 ≤ fm) && decide (fm ≤ 7))) := rfl
    simp only
    by_cases h1 : 1 ≤ fm
    · rw [decide_eq_true h1] at HM
      by_cases h7 : fm ≤ 7
      · rw [decide_eq_true h7] at HM
        go_enter Tryz.func23, Tryz.ntmps23
        go_wp2
        go_ret
        exact ⟨by rw [HM.out]; rfl, (Below.refl _ _).alloc (Nat.le_refl _) _⟩
      · rw [decide_eq_false h7] at HM
        go_enter Tryz.func23, Tryz.ntmps23
        go_wp2
        go_ret
        exact ⟨by rw [HM.out]; rfl, (Below.refl _ _).alloc (Nat.le_refl _) _⟩
    · rw [decide_eq_false h1] at HM
      go_enter Tryz.func23, Tryz.ntmps23
      go_wp2
      go_ret
      exact ⟨by rw [HM.out]; rfl, (Below.refl _ _).alloc (Nat.le_refl _) _⟩
  · have d2 : (fa == 2) = false := beq_eq_false_iff_ne.2 h2
    by_cases h4 : fa = 4
    · subst h4
      have HM : Hid (rgB ⟨fe, 4, fk, fm, fs, fl⟩ = (decide (0 ≤ fm) && decide (fm ≤ 2))) := rfl
      simp only
      by_cases h1 : 0 ≤ fm
      · rw [decide_eq_true h1] at HM
        by_cases h7 : fm ≤ 2
        · rw [decide_eq_true h7] at HM
          go_enter Tryz.func23, Tryz.ntmps23
          go_wp2
          go_ret
          exact ⟨by rw [HM.out]; rfl, (Below.refl _ _).alloc (Nat.le_refl _) _⟩
        · rw [decide_eq_false h7] at HM
          go_enter Tryz.func23, Tryz.ntmps23
          go_wp2
          go_ret
          exact ⟨by rw [HM.out]; rfl, (Below.refl _ _).alloc (Nat.le_refl _) _⟩
      · rw [decide_eq_false h1] at HM
        go_enter Tryz.func23, Tryz.ntmps23
        go_wp2
        go_ret
        exact ⟨by rw [HM.out]; rfl, (Below.refl _ _).alloc (Nat.le_refl _) _⟩
    · have d4 : (fa == 4) = false := beq_eq_false_iff_ne.2 h4
      have HM : Hid (rgB ⟨fe, fa, fk, fm, fs, fl⟩ = true) := by show _ = _; unfold rgB; simp only; rw [if_neg h2, if_neg h4]
      simp only
      go_enter Tryz.func23, Tryz.ntmps23
      go_wp2
      go_ret
      exact ⟨by rw [HM.out]; rfl, (Below.refl _ _).alloc (Nat.le_refl _) _⟩
/-- the whole span -/
def allS : List Sp := [(minT, maxT)]
def whB (l : List Sp) : Bool := covB l allS
set_option maxRecDepth 100000 in
set_option maxHeartbeats 1000000 in
theorem isWhole_any (A : Option Addr) (c : Nat) (l : List Sp) (w : World) (hs : SlS w w.heap.size A l) (hlc : l.length ≤ c) (hc : c ≤ maxLen) (hl : 2 * l.length + 2 ≤ 3000) (hk : ∀ s ∈ l, SpOk s) :
    Calls Tryz.prog 35 #[.slice A l.length c] w fun e w' => e = .returned (.bool (whB l)) ∧ Below w.heap.size w w' := by
  have HS := Lib.hid hs
  obtain ⟨w1, hw1⟩ : ∃ w1, w.alloc (.cells #[.int .i64 (-9223372036854775808), .int .i64 9223372036854775807] 68) = w1 := ⟨_, rfl⟩
  have HB1 : Hid (Below w.heap.size w w1) := by show Below _ _ _; rw [← hw1]; exact (Below.refl _ _).alloc (Nat.le_refl _) _
  have h2 : SlS w1 w1.heap.size (some ⟨w.heap.size, 0, none⟩) allS := by
    rw [← hw1]
    refine fun _ => ⟨w.heap.size, 0, rfl, by simp, fun j q hq => ?_⟩
    have hh := heap_alloc_new w (.cells #[.int .i64 (-9223372036854775808), .int .i64 9223372036854775807] 68)
    cases j with
    | zero =>
      cases hq
      exact ⟨by unfold World.cell?; simp only [Nat.zero_mul, Nat.add_zero]; rw [hh]; rfl, by unfold World.cell?; simp only [Nat.zero_mul, Nat.add_zero, Nat.zero_add]; rw [hh]; rfl⟩
    | succ j => simp [allS] at hq
  have HC := Lib.hid (coversS_any A (some ⟨w.heap.size, 0, none⟩) c 1 l allS w1 ((hs.next HB1.out (Nat.le_refl _)).more HB1.out.size) h2 hlc hc (Nat.le_refl _) (by decide) (by show 2 * l.length + 2 * 1 ≤ 3000; omega) hk (fun s hs => by rw [List.mem_singleton.1 hs]; exact ⟨⟨by decide, by decide⟩, by decide, by decide⟩))
  clear hs h2
  go_enter Tryz.func35, Tryz.ntmps35
  go_wp2_with fail
  refine (show Calls _ _ #[.slice A l.length c, .slice (some ⟨w.heap.size, 0, none⟩) 1 1] w1 _ from HC.out).mono ?_
  rintro e w2 ⟨rfl, hb2⟩
  have HB2 := Lib.hid (HB1.out.trans (hb2.mono HB1.out.size))
  clear hb2 HC
  go_wp2
  go_ret
  exact ⟨rfl, HB2.out⟩
end Go.Proofs.YtlmihlepaoifiaaGreat

/-
  CONTRACTS: the closures of the rows that ask one fact, or one attribute.
-/
namespace Go.Proofs.YtlmihlepaoifiaaGreat
open Go.RowKit Go.Maps Go.Shelf

theorem fldA2 (i : Int) (s : ByteArray) (ty un : Int) (m p x : Bool) (W : World) : (Instr.field 43 (.agg #[.int .i64 i, .string s, .int .i64 ty, .bool m, .int .i64 un, .bool p, .bool x]) 2).run Tryz.prog W = .ok (.int .i64 ty) W := by kernel_rfl
theorem fldA3 (i : Int) (s : ByteArray) (ty un : Int) (m p x : Bool) (W : World) : (Instr.field 43 (.agg #[.int .i64 i, .string s, .int .i64 ty, .bool m, .int .i64 un, .bool p, .bool x]) 3).run Tryz.prog W = .ok (.bool m) W := by kernel_rfl
theorem fldA4 (i : Int) (s : ByteArray) (ty un : Int) (m p x : Bool) (W : World) : (Instr.field 43 (.agg #[.int .i64 i, .string s, .int .i64 ty, .bool m, .int .i64 un, .bool p, .bool x]) 4).run Tryz.prog W = .ok (.int .i64 un) W := by kernel_rfl
attribute [local go_sem] fldA2 fldA3 fldA4
/-- what the closures hold: the map by numbers, the closure that asks it -/
structure RwE (W : World) (bB bM bI : Nat) (T : List Att) : Prop where
  mp : Boxed W bB 53 (.map (some bM))
  map : MapAt W bM T
  is : Boxed W bI 54 (.func (.func 15) #[] #[.pointer (some ⟨bB, 0, none⟩)])
theorem RwE.next {W W' : World} {bB bM bI : Nat} {T : List Att} (h : RwE W bB bM bI T) (hb : Below W.heap.size W W') : RwE W' bB bM bI T :=
  ⟨(hb.block bB h.mp.lt).trans h.mp, h.map.next hb, (hb.block bI h.is.lt).trans h.is⟩
/-- what is asked of a fact's numbers -/
def WfF (f : FactP) : Prop := (Lit.int .i64 f.a).wf = true ∧ (Lit.int .i64 f.e).wf = true
def a1B (T : List Att) (f : FactP) : Bool := !isB T f.a
def a2B (T : List Att) (f : FactP) : Bool := (!(f.k == (lookT T f.a).ty) || (mkB f && !isB T f.e)) || !rgB f
def a3B (T : List Att) (f : FactP) : Bool := !(lookT T f.a).many
def a4B (T : List Att) (f : FactP) : Bool := decide (0 < (lookT T f.a).un)
def a5B (f : FactP) : Bool := decide (f.a < 10) && !whB f.l
def a6B (a : Att) : Bool := a.part && !(a.ty == 5)
set_option maxRecDepth 100000 in
set_option maxHeartbeats 1000000 in
theorem ask1_any (T : List Att) (bB bM bI : Nat) (f : FactP) (A : Option Addr) (n c : Nat) (w : World) (h : RwE w bB bM bI T) (hf : WfF f) :
    Calls Tryz.prog 19 #[.agg #[.int .i64 f.e, .int .i64 f.a, .int .i64 f.k, .int .i64 f.m, .string f.s, .slice A n c], .pointer (some ⟨bI, 0, none⟩)] w fun e w' => e = .returned (.bool (a1B T f)) ∧ Below w.heap.size w w' := by
  have HM : Hid (a1B T f = !isB T f.a) := rfl
  obtain ⟨w1, hw1⟩ : ∃ w1, w.alloc (.cells #[.int .i64 f.e, .int .i64 f.a, .int .i64 f.k, .int .i64 f.m, .string f.s, .slice A n c] 31) = w1 := ⟨_, rfl⟩
  have hb1 : Below w.heap.size w w1 := by rw [← hw1]; exact (Below.refl _ _).alloc (Nat.le_refl _) _
  have hx := fcBx_new w f (.slice A n c)
  rw [hw1] at hx
  have h1 := h.next hb1
  have HC := Lib.hid (isAttr_any T bB bM f.a hf.1 w1 h1.mp h1.map)
  have b0 := h1.is.cell
  have c1 := hx.k1
  have HB1 := Lib.hid hb1
  clear h hf hb1 hx h1
  go_enter Tryz.func19, Tryz.ntmps19
  go_wp2_with fail
  refine HC.out.mono ?_
  rintro e w2 ⟨rfl, hb2⟩
  have HB2 := Lib.hid (HB1.out.trans (hb2.mono HB1.out.size))
  clear hb2 HC hw1 b0 c1
  go_wp2
  go_ret
  exact ⟨by rw [HM.out]; rfl, HB2.out⟩
set_option maxRecDepth 100000 in
set_option maxHeartbeats 2000000 in
theorem ask2_any (T : List Att) (bB bM bI : Nat) (f : FactP) (A : Option Addr) (n c : Nat) (w : World) (h : RwE w bB bM bI T) (hf : WfF f) :
    Calls Tryz.prog 21 #[.agg #[.int .i64 f.e, .int .i64 f.a, .int .i64 f.k, .int .i64 f.m, .string f.s, .slice A n c], .pointer (some ⟨bB, 0, none⟩), .pointer (some ⟨bI, 0, none⟩)] w fun e w' => e = .returned (.bool (a2B T f)) ∧ Below w.heap.size w w' := by
  have HM : Hid (a2B T f = ((!(f.k == (lookT T f.a).ty) || (mkB f && !isB T f.e)) || !rgB f)) := rfl
  obtain ⟨w1, hw1⟩ : ∃ w1, w.alloc (.cells #[.int .i64 f.e, .int .i64 f.a, .int .i64 f.k, .int .i64 f.m, .string f.s, .slice A n c] 31) = w1 := ⟨_, rfl⟩
  have hb1 : Below w.heap.size w w1 := by rw [← hw1]; exact (Below.refl _ _).alloc (Nat.le_refl _) _
  have hx := fcBx_new w f (.slice A n c)
  rw [hw1] at hx
  have h1 := h.next hb1
  have HX := Lib.hid hx
  have HR := Lib.hid h1
  have b0 := h1.mp.cell
  have hl := h1.map.get f.a hf.1
  obtain ⟨y, hy⟩ : ∃ y, lookT T f.a = y := ⟨_, rfl⟩
  rw [hy] at hl HM
  unfold attV at hl
  have c0 := hx.k0
  have c1 := hx.k1
  have c2 := hx.k2
  have c3 := hx.k3
  have c4 := hx.k4
  have c5 := hx.k5
  have HB1 := Lib.hid hb1
  have HF := Lib.hid hf
  have HMK := Lib.hid (fun X => makes_any f A n c X)
  have HRG := Lib.hid (fun X => inRange_any f A n c X)
  obtain ⟨mk, hmk⟩ : ∃ g, mkB f = g := ⟨_, rfl⟩
  obtain ⟨rg, hrg⟩ : ∃ g, rgB f = g := ⟨_, rfl⟩
  rw [hmk] at HMK HM
  rw [hrg] at HRG HM
  clear h hf hb1 hx h1 hy hmk hrg
  by_cases hke : f.k = y.ty
  rotate_left
  · have d0 : (f.k == y.ty) = false := beq_eq_false_iff_ne.2 hke
    have d1 : (f.k != y.ty) = true := by unfold bne; rw [d0]; rfl
    rw [d0] at HM
    clear d0
    go_enter Tryz.func21, Tryz.ntmps21
    go_wp2_with fail
    go_ret
    exact ⟨by rw [HM.out]; rfl, HB1.out⟩
  · have d0 : (f.k == y.ty) = true := beq_iff_eq.2 hke
    have d1 : (f.k != y.ty) = false := by unfold bne; rw [d0]; rfl
    rw [d0] at HM
    clear d0
    clear hke
    go_enter Tryz.func21, Tryz.ntmps21
    go_wp2_with fail
    refine (HMK.out _).mono ?_
    rintro e w2 ⟨rfl, hb2⟩
    have HB2 := Lib.hid (HB1.out.trans (hb2.mono HB1.out.size))
    have HX2 := Lib.hid (HX.out.next hb2)
    have HR2 := Lib.hid (HR.out.next hb2)
    clear hb2 hw1 b0 hl c0 c1 c2 c3 c4 c5 HMK HX HR
    have c0 := HX2.out.k0
    have c1 := HX2.out.k1
    have c2 := HX2.out.k2
    have c3 := HX2.out.k3
    have c4 := HX2.out.k4
    have c5 := HX2.out.k5
    cases mk with
    | false =>
      go_wp2_with fail
      refine (HRG.out _).mono ?_
      rintro e w3 ⟨rfl, hb3⟩
      have HB3 := Lib.hid (HB2.out.trans (hb3.mono HB2.out.size))
      clear hb3 c0 c1 c2 c3 c4 c5 HRG
      go_wp2
      go_ret
      exact ⟨by rw [HM.out]; rfl, HB3.out⟩
    | true =>
      have b0 := HR2.out.is.cell
      go_wp2_with fail
      refine (isAttr_any T bB bM f.e HF.out.2 w2 HR2.out.mp HR2.out.map).mono ?_
      rintro e w3 ⟨rfl, hb3⟩
      have HB3 := Lib.hid (HB2.out.trans (hb3.mono HB2.out.size))
      have HX3 := Lib.hid (HX2.out.next hb3)
      obtain ⟨v, hv⟩ : ∃ v, isB T f.e = v := ⟨_, rfl⟩
      rw [hv] at HM ⊢
      clear hb3 c0 c1 c2 c3 c4 c5 b0 hv
      have c0 := HX3.out.k0
      have c1 := HX3.out.k1
      have c2 := HX3.out.k2
      have c3 := HX3.out.k3
      have c4 := HX3.out.k4
      have c5 := HX3.out.k5
      cases v with
      | false =>
        go_wp2
        go_ret
        exact ⟨by rw [HM.out]; rfl, HB3.out⟩
      | true =>
        go_wp2_with fail
        refine (HRG.out _).mono ?_
        rintro e w4 ⟨rfl, hb4⟩
        have HB4 := Lib.hid (HB3.out.trans (hb4.mono HB3.out.size))
        clear hb4 c0 c1 c2 c3 c4 c5 HRG
        go_wp2
        go_ret
        exact ⟨by rw [HM.out]; rfl, HB4.out⟩
set_option maxRecDepth 100000 in
set_option maxHeartbeats 1000000 in
theorem ask3_any (T : List Att) (bB bM : Nat) (f : FactP) (A : Option Addr) (n c : Nat) (w : World) (hmp : Boxed w bB 53 (.map (some bM))) (hm : MapAt w bM T) (hf : WfF f) :
    Calls Tryz.prog 25 #[.agg #[.int .i64 f.e, .int .i64 f.a, .int .i64 f.k, .int .i64 f.m, .string f.s, .slice A n c], .pointer (some ⟨bB, 0, none⟩)] w fun e w' => e = .returned (.bool (a3B T f)) ∧ Below w.heap.size w w' := by
  have HM : Hid (a3B T f = !(lookT T f.a).many) := rfl
  obtain ⟨w1, hw1⟩ : ∃ w1, w.alloc (.cells #[.int .i64 f.e, .int .i64 f.a, .int .i64 f.k, .int .i64 f.m, .string f.s, .slice A n c] 31) = w1 := ⟨_, rfl⟩
  have hb1 : Below w.heap.size w w1 := by rw [← hw1]; exact (Below.refl _ _).alloc (Nat.le_refl _) _
  have hx := fcBx_new w f (.slice A n c)
  rw [hw1] at hx
  have b0 := Boxed.cell (show Boxed w1 bB _ _ from (hb1.block bB hmp.lt).trans hmp)
  have hl := (hm.next hb1).get f.a hf.1
  obtain ⟨y, hy⟩ : ∃ y, lookT T f.a = y := ⟨_, rfl⟩
  rw [hy] at hl HM
  unfold attV at hl
  have c1 := hx.k1
  have HB1 := Lib.hid hb1
  clear hmp hm hf hb1 hx hy
  go_enter Tryz.func25, Tryz.ntmps25
  go_wp2
  go_ret
  exact ⟨by rw [HM.out]; rfl, HB1.out⟩
set_option maxRecDepth 100000 in
set_option maxHeartbeats 1000000 in
theorem ask4_any (T : List Att) (bB bM : Nat) (f : FactP) (A : Option Addr) (n c : Nat) (w : World) (hmp : Boxed w bB 53 (.map (some bM))) (hm : MapAt w bM T) (hf : WfF f) :
    Calls Tryz.prog 31 #[.agg #[.int .i64 f.e, .int .i64 f.a, .int .i64 f.k, .int .i64 f.m, .string f.s, .slice A n c], .pointer (some ⟨bB, 0, none⟩)] w fun e w' => e = .returned (.bool (a4B T f)) ∧ Below w.heap.size w w' := by
  have HM : Hid (a4B T f = decide (0 < (lookT T f.a).un)) := rfl
  obtain ⟨w1, hw1⟩ : ∃ w1, w.alloc (.cells #[.int .i64 f.e, .int .i64 f.a, .int .i64 f.k, .int .i64 f.m, .string f.s, .slice A n c] 31) = w1 := ⟨_, rfl⟩
  have hb1 : Below w.heap.size w w1 := by rw [← hw1]; exact (Below.refl _ _).alloc (Nat.le_refl _) _
  have hx := fcBx_new w f (.slice A n c)
  rw [hw1] at hx
  have b0 := Boxed.cell (show Boxed w1 bB _ _ from (hb1.block bB hmp.lt).trans hmp)
  have hl := (hm.next hb1).get f.a hf.1
  obtain ⟨y, hy⟩ : ∃ y, lookT T f.a = y := ⟨_, rfl⟩
  rw [hy] at hl HM
  unfold attV at hl
  have c1 := hx.k1
  have HB1 := Lib.hid hb1
  clear hmp hm hf hb1 hx hy
  go_enter Tryz.func31, Tryz.ntmps31
  go_wp2
  go_ret
  exact ⟨by rw [HM.out]; rfl, HB1.out⟩
set_option maxRecDepth 100000 in
set_option maxHeartbeats 1000000 in
theorem ask5_any (f : FactP) (A : Option Addr) (c : Nat) (w : World) (hs : SlS w w.heap.size A f.l) (hlc : f.l.length ≤ c) (hc : c ≤ maxLen) (hl : 2 * f.l.length + 2 ≤ 3000) (hk : ∀ s ∈ f.l, SpOk s) :
    Calls Tryz.prog 34 #[.agg #[.int .i64 f.e, .int .i64 f.a, .int .i64 f.k, .int .i64 f.m, .string f.s, .slice A f.l.length c]] w fun e w' => e = .returned (.bool (a5B f)) ∧ Below w.heap.size w w' := by
  have HM : Hid (a5B f = (decide (f.a < 10) && !whB f.l)) := rfl
  obtain ⟨w1, hw1⟩ : ∃ w1, w.alloc (.cells #[.int .i64 f.e, .int .i64 f.a, .int .i64 f.k, .int .i64 f.m, .string f.s, .slice A f.l.length c] 31) = w1 := ⟨_, rfl⟩
  have hb1 : Below w.heap.size w w1 := by rw [← hw1]; exact (Below.refl _ _).alloc (Nat.le_refl _) _
  have hx := fcBx_new w f (.slice A f.l.length c)
  rw [hw1] at hx
  have HC := Lib.hid (isWhole_any A c f.l w1 ((hs.next hb1 (Nat.le_refl _)).more hb1.size) hlc hc hl hk)
  have c1 := hx.k1
  have c5 := hx.k5
  have HB1 := Lib.hid hb1
  clear hs hlc hc hl hk hb1 hx
  by_cases h : f.a < 10
  · rw [decide_eq_true h] at HM
    go_enter Tryz.func34, Tryz.ntmps34
    go_wp2_with fail
    refine HC.out.mono ?_
    rintro e w2 ⟨rfl, hb2⟩
    have HB2 := Lib.hid (HB1.out.trans (hb2.mono HB1.out.size))
    clear hb2 HC hw1 c1 c5
    go_wp2
    go_ret
    exact ⟨by rw [HM.out]; rfl, HB2.out⟩
  · rw [decide_eq_false h] at HM
    go_enter Tryz.func34, Tryz.ntmps34
    go_wp2
    go_ret
    exact ⟨by rw [HM.out]; rfl, HB1.out⟩
set_option maxRecDepth 100000 in
set_option maxHeartbeats 1000000 in
theorem ask6_any (a : Att) (w : World) :
    Calls Tryz.prog 38 #[.agg #[.int .i64 a.id, .string a.nm, .int .i64 a.ty, .bool a.many, .int .i64 a.un, .bool a.part, .bool a.ix]] w fun e w' => e = .returned (.bool (a6B a)) ∧ Below w.heap.size w w' := by
  obtain ⟨a1, a2, a3, a4, a5, a6, a7⟩ := a
  simp only
  cases a6
  · go_enter Tryz.func38, Tryz.ntmps38
    go_wp2
    go_ret
    exact ⟨rfl, (Below.refl _ _).alloc (Nat.le_refl _) _⟩
  · go_enter Tryz.func38, Tryz.ntmps38
    go_wp2
    go_ret
    exact ⟨rfl, (Below.refl _ _).alloc (Nat.le_refl _) _⟩
end Go.Proofs.YtlmihlepaoifiaaGreat

/-
  CONTRACTS: slices.ContainsFunc at facts and at attributes, by the closures of the rows.
-/
namespace Go.Proofs.YtlmihlepaoifiaaGreat
open Go.RowKit Go.Maps Go.Shelf

set_option maxRecDepth 100000 in
set_option maxHeartbeats 2000000 in
theorem idxF1_any (bI : Nat) (p : FactP → Bool) (A0 : Option Addr) (c0 : Nat) (fs : List FactP) (w : World) (hs : FVa w (.slice A0 fs.length c0) fs) (hl : fs.length ≤ 1000000)
    (hp : ∀ f ∈ fs, ∀ (A : Option Addr) (c : Nat) (W : World), SlS W W.heap.size A f.l → f.l.length ≤ c → c ≤ maxLen → Below w.heap.size w W → Calls Tryz.prog 19 #[.agg #[.int .i64 f.e, .int .i64 f.a, .int .i64 f.k, .int .i64 f.m, .string f.s, .slice A f.l.length c], .pointer (some ⟨bI, 0, none⟩)] W fun e w' => e = .returned (.bool (p f)) ∧ Below W.heap.size W w') :
    Calls Tryz.prog 48 #[.slice A0 fs.length c0, .func (.func 19) #[] #[.pointer (some ⟨bI, 0, none⟩)]] w fun e w' => ((fs.any p = true ∧ ∃ j : Nat, e = .returned (.int .i64 j)) ∨ (fs.any p = false ∧ e = .returned (.int .i64 (-1)))) ∧ Below w.heap.size w w' := by
  have HS := Lib.hid hs
  have HP := Lib.hid hp
  clear hs hp
  go_enter Tryz.func48, Tryz.ntmps48
  go_wp2
  go_loopg [8] fs.length (fun g i wr => ∃ j : Nat, i = .int .i64 j ∧ j + g = fs.length ∧ Hid (∀ f ∈ fs.take j, p f = false) ∧ Hid (Below w.heap.size w wr))
  case atStart => exact ⟨0, rfl, by omega, (fun f h => by cases h), Below.refl _ _⟩
  case round =>
    obtain ⟨j, rfl, hj, HN, HB⟩ := hrel
    cases gk with
    | zero =>
      have hji : ¬ (j : Int) < (fs.length : Int) := by omega
      have HF : Hid (fs.any p = false) := by
        show _ = _
        rw [List.any_eq_false]
        intro f hf
        have := HN.out
        rw [List.take_of_length_le (by omega)] at this
        simp [this f hf]
      go_wp2
      go_ret
      exact ⟨.inr ⟨fun x hx => by simpa using List.any_eq_false.1 HF.out x hx, rfl⟩, HB.out⟩
    | succ g =>
      have hji : (j : Int) < (fs.length : Int) := by omega
      have hjn : j < fs.length := by omega
      obtain ⟨b, o, sv, rfl, hlt, hc, hsv⟩ := fva_at (HS.out.next HB.out) hjn
      have hmem : fs[j] ∈ fs := List.getElem_mem hjn
      have htk : fs.take (j + 1) = fs.take j ++ [fs[j]] := by rw [List.take_add_one, List.getElem?_eq_getElem hjn]; rfl
      obtain ⟨f, hf⟩ : ∃ f, fs[j] = f := ⟨_, rfl⟩
      rw [hf] at hc hsv hmem htk
      have HTK := Lib.hid htk
      have HMEM := Lib.hid hmem
      obtain ⟨As, cs, rfl, hss, hlc, hcm⟩ := hsv
      have HC := Lib.hid (HP.out f hmem As cs wr hss hlc hcm HB.out)
      obtain ⟨v, hv⟩ : ∃ v, p f = v := ⟨_, rfl⟩
      rw [hv] at HC
      have HV := Lib.hid hv
      have c0 := hc.1
      have c1 := hc.2.1
      have c2 := hc.2.2.1
      have c3 := hc.2.2.2.1
      have c4 := hc.2.2.2.2.1
      have c5 := hc.2.2.2.2.2
      clear hc hf hss hlc hcm hmem htk hv
      go_wp2_with fail
      refine HC.out.mono ?_
      rintro e w2 ⟨rfl, hb2⟩
      have HB2 := Lib.hid (HB.out.trans (hb2.mono HB.out.size))
      clear hb2 HC c0 c1 c2 c3 c4 c5
      cases v with
      | true =>
        have HF : Hid (fs.any p = true) := List.any_eq_true.2 ⟨f, HMEM.out, HV.out⟩
        go_wp2
        go_ret
        exact ⟨.inl ⟨HF.out, j, rfl⟩, HB2.out⟩
      | false =>
        go_wp2
        go_roundg g
        case measure => omega
        case rel => exact ⟨j + 1, by go_num, by omega, (by
          show ∀ _, _
          rw [HTK.out]
          intro q hq
          rcases List.mem_append.1 hq with h | h
          · exact HN.out q h
          · rw [List.mem_singleton.1 h]; exact HV.out), HB2.out⟩
set_option maxRecDepth 100000 in
set_option maxHeartbeats 1000000 in
theorem someF1_any (bI : Nat) (p : FactP → Bool) (A0 : Option Addr) (c0 : Nat) (fs : List FactP) (w : World) (hs : FVa w (.slice A0 fs.length c0) fs) (hl : fs.length ≤ 1000000)
    (hp : ∀ f ∈ fs, ∀ (A : Option Addr) (c : Nat) (W : World), SlS W W.heap.size A f.l → f.l.length ≤ c → c ≤ maxLen → Below w.heap.size w W → Calls Tryz.prog 19 #[.agg #[.int .i64 f.e, .int .i64 f.a, .int .i64 f.k, .int .i64 f.m, .string f.s, .slice A f.l.length c], .pointer (some ⟨bI, 0, none⟩)] W fun e w' => e = .returned (.bool (p f)) ∧ Below W.heap.size W w') :
    Calls Tryz.prog 17 #[.slice A0 fs.length c0, .func (.func 19) #[] #[.pointer (some ⟨bI, 0, none⟩)]] w fun e w' => e = .returned (.bool (fs.any p)) ∧ Below w.heap.size w w' := by
  have HC := Lib.hid (idxF1_any bI p A0 c0 fs w hs hl hp)
  clear hs hp
  go_enter Tryz.func17, Tryz.ntmps17
  go_wp2_with fail
  refine HC.out.mono ?_
  rintro e w1 ⟨⟨hv, j, rfl⟩ | ⟨hv, rfl⟩, hb⟩
  · have HV := Lib.hid hv
    have HB := Lib.hid hb
    have h0 : (0 : Int) ≤ (j : Int) := by omega
    clear hv hb HC
    go_wp2
    go_ret
    exact ⟨by rw [HV.out]; rfl, HB.out⟩
  · have HV := Lib.hid hv
    have HB := Lib.hid hb
    clear hv hb HC
    go_wp2
    go_ret
    exact ⟨by rw [HV.out]; rfl, HB.out⟩
set_option maxRecDepth 100000 in
set_option maxHeartbeats 2000000 in
theorem idxF2_any (bB : Nat) (bI : Nat) (p : FactP → Bool) (A0 : Option Addr) (c0 : Nat) (fs : List FactP) (w : World) (hs : FVa w (.slice A0 fs.length c0) fs) (hl : fs.length ≤ 1000000)
    (hp : ∀ f ∈ fs, ∀ (A : Option Addr) (c : Nat) (W : World), SlS W W.heap.size A f.l → f.l.length ≤ c → c ≤ maxLen → Below w.heap.size w W → Calls Tryz.prog 21 #[.agg #[.int .i64 f.e, .int .i64 f.a, .int .i64 f.k, .int .i64 f.m, .string f.s, .slice A f.l.length c], .pointer (some ⟨bB, 0, none⟩), .pointer (some ⟨bI, 0, none⟩)] W fun e w' => e = .returned (.bool (p f)) ∧ Below W.heap.size W w') :
    Calls Tryz.prog 48 #[.slice A0 fs.length c0, .func (.func 21) #[] #[.pointer (some ⟨bB, 0, none⟩), .pointer (some ⟨bI, 0, none⟩)]] w fun e w' => ((fs.any p = true ∧ ∃ j : Nat, e = .returned (.int .i64 j)) ∨ (fs.any p = false ∧ e = .returned (.int .i64 (-1)))) ∧ Below w.heap.size w w' := by
  have HS := Lib.hid hs
  have HP := Lib.hid hp
  clear hs hp
  go_enter Tryz.func48, Tryz.ntmps48
  go_wp2
  go_loopg [8] fs.length (fun g i wr => ∃ j : Nat, i = .int .i64 j ∧ j + g = fs.length ∧ Hid (∀ f ∈ fs.take j, p f = false) ∧ Hid (Below w.heap.size w wr))
  case atStart => exact ⟨0, rfl, by omega, (fun f h => by cases h), Below.refl _ _⟩
  case round =>
    obtain ⟨j, rfl, hj, HN, HB⟩ := hrel
    cases gk with
    | zero =>
      have hji : ¬ (j : Int) < (fs.length : Int) := by omega
      have HF : Hid (fs.any p = false) := by
        show _ = _
        rw [List.any_eq_false]
        intro f hf
        have := HN.out
        rw [List.take_of_length_le (by omega)] at this
        simp [this f hf]
      go_wp2
      go_ret
      exact ⟨.inr ⟨fun x hx => by simpa using List.any_eq_false.1 HF.out x hx, rfl⟩, HB.out⟩
    | succ g =>
      have hji : (j : Int) < (fs.length : Int) := by omega
      have hjn : j < fs.length := by omega
      obtain ⟨b, o, sv, rfl, hlt, hc, hsv⟩ := fva_at (HS.out.next HB.out) hjn
      have hmem : fs[j] ∈ fs := List.getElem_mem hjn
      have htk : fs.take (j + 1) = fs.take j ++ [fs[j]] := by rw [List.take_add_one, List.getElem?_eq_getElem hjn]; rfl
      obtain ⟨f, hf⟩ : ∃ f, fs[j] = f := ⟨_, rfl⟩
      rw [hf] at hc hsv hmem htk
      have HTK := Lib.hid htk
      have HMEM := Lib.hid hmem
      obtain ⟨As, cs, rfl, hss, hlc, hcm⟩ := hsv
      have HC := Lib.hid (HP.out f hmem As cs wr hss hlc hcm HB.out)
      obtain ⟨v, hv⟩ : ∃ v, p f = v := ⟨_, rfl⟩
      rw [hv] at HC
      have HV := Lib.hid hv
      have c0 := hc.1
      have c1 := hc.2.1
      have c2 := hc.2.2.1
      have c3 := hc.2.2.2.1
      have c4 := hc.2.2.2.2.1
      have c5 := hc.2.2.2.2.2
      clear hc hf hss hlc hcm hmem htk hv
      go_wp2_with fail
      refine HC.out.mono ?_
      rintro e w2 ⟨rfl, hb2⟩
      have HB2 := Lib.hid (HB.out.trans (hb2.mono HB.out.size))
      clear hb2 HC c0 c1 c2 c3 c4 c5
      cases v with
      | true =>
        have HF : Hid (fs.any p = true) := List.any_eq_true.2 ⟨f, HMEM.out, HV.out⟩
        go_wp2
        go_ret
        exact ⟨.inl ⟨HF.out, j, rfl⟩, HB2.out⟩
      | false =>
        go_wp2
        go_roundg g
        case measure => omega
        case rel => exact ⟨j + 1, by go_num, by omega, (by
          show ∀ _, _
          rw [HTK.out]
          intro q hq
          rcases List.mem_append.1 hq with h | h
          · exact HN.out q h
          · rw [List.mem_singleton.1 h]; exact HV.out), HB2.out⟩
set_option maxRecDepth 100000 in
set_option maxHeartbeats 1000000 in
theorem someF2_any (bB : Nat) (bI : Nat) (p : FactP → Bool) (A0 : Option Addr) (c0 : Nat) (fs : List FactP) (w : World) (hs : FVa w (.slice A0 fs.length c0) fs) (hl : fs.length ≤ 1000000)
    (hp : ∀ f ∈ fs, ∀ (A : Option Addr) (c : Nat) (W : World), SlS W W.heap.size A f.l → f.l.length ≤ c → c ≤ maxLen → Below w.heap.size w W → Calls Tryz.prog 21 #[.agg #[.int .i64 f.e, .int .i64 f.a, .int .i64 f.k, .int .i64 f.m, .string f.s, .slice A f.l.length c], .pointer (some ⟨bB, 0, none⟩), .pointer (some ⟨bI, 0, none⟩)] W fun e w' => e = .returned (.bool (p f)) ∧ Below W.heap.size W w') :
    Calls Tryz.prog 17 #[.slice A0 fs.length c0, .func (.func 21) #[] #[.pointer (some ⟨bB, 0, none⟩), .pointer (some ⟨bI, 0, none⟩)]] w fun e w' => e = .returned (.bool (fs.any p)) ∧ Below w.heap.size w w' := by
  have HC := Lib.hid (idxF2_any bB bI p A0 c0 fs w hs hl hp)
  clear hs hp
  go_enter Tryz.func17, Tryz.ntmps17
  go_wp2_with fail
  refine HC.out.mono ?_
  rintro e w1 ⟨⟨hv, j, rfl⟩ | ⟨hv, rfl⟩, hb⟩
  · have HV := Lib.hid hv
    have HB := Lib.hid hb
    have h0 : (0 : Int) ≤ (j : Int) := by omega
    clear hv hb HC
    go_wp2
    go_ret
    exact ⟨by rw [HV.out]; rfl, HB.out⟩
  · have HV := Lib.hid hv
    have HB := Lib.hid hb
    clear hv hb HC
    go_wp2
    go_ret
    exact ⟨by rw [HV.out]; rfl, HB.out⟩
set_option maxRecDepth 100000 in
set_option maxHeartbeats 2000000 in
theorem idxF5_any (p : FactP → Bool) (A0 : Option Addr) (c0 : Nat) (fs : List FactP) (w : World) (hs : FVa w (.slice A0 fs.length c0) fs) (hl : fs.length ≤ 1000000)
    (hp : ∀ f ∈ fs, ∀ (A : Option Addr) (c : Nat) (W : World), SlS W W.heap.size A f.l → f.l.length ≤ c → c ≤ maxLen → Below w.heap.size w W → Calls Tryz.prog 34 #[.agg #[.int .i64 f.e, .int .i64 f.a, .int .i64 f.k, .int .i64 f.m, .string f.s, .slice A f.l.length c]] W fun e w' => e = .returned (.bool (p f)) ∧ Below W.heap.size W w') :
    Calls Tryz.prog 48 #[.slice A0 fs.length c0, .func (.func 34) #[] #[]] w fun e w' => ((fs.any p = true ∧ ∃ j : Nat, e = .returned (.int .i64 j)) ∨ (fs.any p = false ∧ e = .returned (.int .i64 (-1)))) ∧ Below w.heap.size w w' := by
  have HS := Lib.hid hs
  have HP := Lib.hid hp
  clear hs hp
  go_enter Tryz.func48, Tryz.ntmps48
  go_wp2
  go_loopg [8] fs.length (fun g i wr => ∃ j : Nat, i = .int .i64 j ∧ j + g = fs.length ∧ Hid (∀ f ∈ fs.take j, p f = false) ∧ Hid (Below w.heap.size w wr))
  case atStart => exact ⟨0, rfl, by omega, (fun f h => by cases h), Below.refl _ _⟩
  case round =>
    obtain ⟨j, rfl, hj, HN, HB⟩ := hrel
    cases gk with
    | zero =>
      have hji : ¬ (j : Int) < (fs.length : Int) := by omega
      have HF : Hid (fs.any p = false) := by
        show _ = _
        rw [List.any_eq_false]
        intro f hf
        have := HN.out
        rw [List.take_of_length_le (by omega)] at this
        simp [this f hf]
      go_wp2
      go_ret
      exact ⟨.inr ⟨fun x hx => by simpa using List.any_eq_false.1 HF.out x hx, rfl⟩, HB.out⟩
    | succ g =>
      have hji : (j : Int) < (fs.length : Int) := by omega
      have hjn : j < fs.length := by omega
      obtain ⟨b, o, sv, rfl, hlt, hc, hsv⟩ := fva_at (HS.out.next HB.out) hjn
      have hmem : fs[j] ∈ fs := List.getElem_mem hjn
      have htk : fs.take (j + 1) = fs.take j ++ [fs[j]] := by rw [List.take_add_one, List.getElem?_eq_getElem hjn]; rfl
      obtain ⟨f, hf⟩ : ∃ f, fs[j] = f := ⟨_, rfl⟩
      rw [hf] at hc hsv hmem htk
      have HTK := Lib.hid htk
      have HMEM := Lib.hid hmem
      obtain ⟨As, cs, rfl, hss, hlc, hcm⟩ := hsv
      have HC := Lib.hid (HP.out f hmem As cs wr hss hlc hcm HB.out)
      obtain ⟨v, hv⟩ : ∃ v, p f = v := ⟨_, rfl⟩
      rw [hv] at HC
      have HV := Lib.hid hv
      have c0 := hc.1
      have c1 := hc.2.1
      have c2 := hc.2.2.1
      have c3 := hc.2.2.2.1
      have c4 := hc.2.2.2.2.1
      have c5 := hc.2.2.2.2.2
      clear hc hf hss hlc hcm hmem htk hv
      go_wp2_with fail
      refine HC.out.mono ?_
      rintro e w2 ⟨rfl, hb2⟩
      have HB2 := Lib.hid (HB.out.trans (hb2.mono HB.out.size))
      clear hb2 HC c0 c1 c2 c3 c4 c5
      cases v with
      | true =>
        have HF : Hid (fs.any p = true) := List.any_eq_true.2 ⟨f, HMEM.out, HV.out⟩
        go_wp2
        go_ret
        exact ⟨.inl ⟨HF.out, j, rfl⟩, HB2.out⟩
      | false =>
        go_wp2
        go_roundg g
        case measure => omega
        case rel => exact ⟨j + 1, by go_num, by omega, (by
          show ∀ _, _
          rw [HTK.out]
          intro q hq
          rcases List.mem_append.1 hq with h | h
          · exact HN.out q h
          · rw [List.mem_singleton.1 h]; exact HV.out), HB2.out⟩
set_option maxRecDepth 100000 in
set_option maxHeartbeats 1000000 in
theorem someF5_any (p : FactP → Bool) (A0 : Option Addr) (c0 : Nat) (fs : List FactP) (w : World) (hs : FVa w (.slice A0 fs.length c0) fs) (hl : fs.length ≤ 1000000)
    (hp : ∀ f ∈ fs, ∀ (A : Option Addr) (c : Nat) (W : World), SlS W W.heap.size A f.l → f.l.length ≤ c → c ≤ maxLen → Below w.heap.size w W → Calls Tryz.prog 34 #[.agg #[.int .i64 f.e, .int .i64 f.a, .int .i64 f.k, .int .i64 f.m, .string f.s, .slice A f.l.length c]] W fun e w' => e = .returned (.bool (p f)) ∧ Below W.heap.size W w') :
    Calls Tryz.prog 17 #[.slice A0 fs.length c0, .func (.func 34) #[] #[]] w fun e w' => e = .returned (.bool (fs.any p)) ∧ Below w.heap.size w w' := by
  have HC := Lib.hid (idxF5_any  p A0 c0 fs w hs hl hp)
  clear hs hp
  go_enter Tryz.func17, Tryz.ntmps17
  go_wp2_with fail
  refine HC.out.mono ?_
  rintro e w1 ⟨⟨hv, j, rfl⟩ | ⟨hv, rfl⟩, hb⟩
  · have HV := Lib.hid hv
    have HB := Lib.hid hb
    have h0 : (0 : Int) ≤ (j : Int) := by omega
    clear hv hb HC
    go_wp2
    go_ret
    exact ⟨by rw [HV.out]; rfl, HB.out⟩
  · have HV := Lib.hid hv
    have HB := Lib.hid hb
    clear hv hb HC
    go_wp2
    go_ret
    exact ⟨by rw [HV.out]; rfl, HB.out⟩
set_option maxRecDepth 100000 in
set_option maxHeartbeats 2000000 in
theorem idxA6_any (A0 : Option Addr) (c0 : Nat) (l : List Att) (w : World) (hs : SlA w w.heap.size A0 l) (hl : l.length ≤ 1000000) :
    Calls Tryz.prog 54 #[.slice A0 l.length c0, .func (.func 38) #[] #[]] w fun e w' => ((l.any a6B = true ∧ ∃ j : Nat, e = .returned (.int .i64 j)) ∨ (l.any a6B = false ∧ e = .returned (.int .i64 (-1)))) ∧ Below w.heap.size w w' := by
  have HS := Lib.hid hs
  clear hs
  go_enter Tryz.func54, Tryz.ntmps54
  go_wp2
  go_loopg [8] l.length (fun g i wr => ∃ j : Nat, i = .int .i64 j ∧ j + g = l.length ∧ Hid (∀ f ∈ l.take j, a6B f = false) ∧ Hid (Below w.heap.size w wr))
  case atStart => exact ⟨0, rfl, by omega, (fun f h => by cases h), Below.refl _ _⟩
  case round =>
    obtain ⟨j, rfl, hj, HN, HB⟩ := hrel
    cases gk with
    | zero =>
      have hji : ¬ (j : Int) < (l.length : Int) := by omega
      have HF : Hid (l.any a6B = false) := by
        show _ = _
        rw [List.any_eq_false]
        intro f hf
        have := HN.out
        rw [List.take_of_length_le (by omega)] at this
        simp [this f hf]
      go_wp2
      go_ret
      exact ⟨.inr ⟨fun x hx => by simpa using List.any_eq_false.1 HF.out x hx, rfl⟩, HB.out⟩
    | succ g =>
      have hji : (j : Int) < (l.length : Int) := by omega
      have hjn : j < l.length := by omega
      obtain ⟨b, o, rfl, hlt, hp⟩ := (HS.out.next HB.out (Nat.le_refl _)).at_ hjn
      have hmem : l[j] ∈ l := List.getElem_mem hjn
      have htk : l.take (j + 1) = l.take j ++ [l[j]] := by rw [List.take_add_one, List.getElem?_eq_getElem hjn]; rfl
      obtain ⟨f, hf⟩ : ∃ f, l[j] = f := ⟨_, rfl⟩
      rw [hf] at hp hmem htk
      have HTK := Lib.hid htk
      have HMEM := Lib.hid hmem
      have HC := Lib.hid (ask6_any f wr)
      obtain ⟨v, hv⟩ : ∃ v, a6B f = v := ⟨_, rfl⟩
      rw [hv] at HC
      have HV := Lib.hid hv
      have c0 := hp.c0
      have c1 := hp.c1
      have c2 := hp.c2
      have c3 := hp.c3
      have c4 := hp.c4
      have c5 := hp.c5
      have c6 := hp.c6
      clear hp hf hmem htk hv
      go_wp2_with fail
      refine HC.out.mono ?_
      rintro e w2 ⟨rfl, hb2⟩
      have HB2 := Lib.hid (HB.out.trans (hb2.mono HB.out.size))
      clear hb2 HC c0 c1 c2 c3 c4 c5 c6
      cases v with
      | true =>
        have HF : Hid (l.any a6B = true) := List.any_eq_true.2 ⟨f, HMEM.out, HV.out⟩
        go_wp2
        go_ret
        exact ⟨.inl ⟨HF.out, j, rfl⟩, HB2.out⟩
      | false =>
        go_wp2
        go_roundg g
        case measure => omega
        case rel => exact ⟨j + 1, by go_num, by omega, (by
          show ∀ _, _
          rw [HTK.out]
          intro q hq
          rcases List.mem_append.1 hq with h | h
          · exact HN.out q h
          · rw [List.mem_singleton.1 h]; exact HV.out), HB2.out⟩
set_option maxRecDepth 100000 in
set_option maxHeartbeats 1000000 in
theorem someA6_any (A0 : Option Addr) (c0 : Nat) (l : List Att) (w : World) (hs : SlA w w.heap.size A0 l) (hl : l.length ≤ 1000000) :
    Calls Tryz.prog 37 #[.slice A0 l.length c0, .func (.func 38) #[] #[]] w fun e w' => e = .returned (.bool (l.any a6B)) ∧ Below w.heap.size w w' := by
  have HC := Lib.hid (idxA6_any A0 c0 l w hs hl)
  clear hs
  go_enter Tryz.func37, Tryz.ntmps37
  go_wp2_with fail
  refine HC.out.mono ?_
  rintro e w1 ⟨⟨hv, j, rfl⟩ | ⟨hv, rfl⟩, hb⟩
  · have HV := Lib.hid hv
    have HB := Lib.hid hb
    have h0 : (0 : Int) ≤ (j : Int) := by omega
    clear hv hb HC
    go_wp2
    go_ret
    exact ⟨by rw [HV.out]; rfl, HB.out⟩
  · have HV := Lib.hid hv
    have HB := Lib.hid hb
    clear hv hb HC
    go_wp2
    go_ret
    exact ⟨by rw [HV.out]; rfl, HB.out⟩
end Go.Proofs.YtlmihlepaoifiaaGreat
