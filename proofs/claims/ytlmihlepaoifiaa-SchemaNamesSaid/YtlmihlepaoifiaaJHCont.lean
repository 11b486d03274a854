import Derived.Test.YtlmihlepaoifiaaJHMap
import Derived.Test.YtlmihlepaoifiaaJSCovA
/-
  CONTRACTS over facts: makesAttr, inRange, isWhole; the closures of the rows that ask one fact.
-/
namespace Go.Proofs.Ytlmihlepaoifiaa
open Go.RowKit Go.Maps Go.Shelf

def mkB (f : FactP) : Bool := decide (10 ≤ f.e) && (decide (f.a = 1) || decide (f.a = 2))
def rgB (f : FactP) : Bool := if f.a = 2 then decide (1 ≤ f.m) && decide (f.m ≤ 7) else if f.a = 4 then decide (0 ≤ f.m) && decide (f.m ≤ 2) else true
set_option maxRecDepth 100000 in
set_option maxHeartbeats 1000000 in
theorem makes_any (f : FactP) (A : Option Addr) (n c : Nat) (w : World) :
    Calls Try.prog 26 #[.agg #[.int .i64 f.e, .int .i64 f.a, .int .i64 f.k, .int .i64 f.m, .string f.s, .slice A n c]] w fun e w' => e = .returned (.bool (mkB f)) ∧ Below w.heap.size w w' := by
  have HM : Hid (mkB f = (decide (10 ≤ f.e) && (decide (f.a = 1) || decide (f.a = 2)))) := rfl
  obtain ⟨g, hg⟩ : ∃ g, mkB f = g := ⟨_, rfl⟩
  have HG := Lib.hid hg
  obtain ⟨fe, fa, fk, fm, fs, fl⟩ := f
  rw [hg] at HM
  simp only at HM
  rw [hg]
  clear hg
  by_cases h1 : 10 ≤ fe
  · have d1 : decide (10 ≤ fe) = true := decide_eq_true h1
    by_cases h2 : fa = 1
    · subst h2
      have HR : Hid (g = true) := by show _ = _; rw [HM.out, d1]; rfl
      go_enter Try.func26, Try.ntmps26
      go_wp2
      go_ret
      exact ⟨by rw [HR.out]; rfl, (Below.refl _ _).alloc (Nat.le_refl _) _⟩
    · have d2 : (fa == 1) = false := beq_eq_false_iff_ne.2 h2
      by_cases h3 : fa = 2
      · subst h3
        have HR : Hid (g = true) := by show _ = _; rw [HM.out, d1]; rfl
        go_enter Try.func26, Try.ntmps26
        go_wp2
        go_ret
        exact ⟨by rw [HR.out]; rfl, (Below.refl _ _).alloc (Nat.le_refl _) _⟩
      · have d3 : (fa == 2) = false := beq_eq_false_iff_ne.2 h3
        have HR : Hid (g = false) := by show _ = _; rw [HM.out, d1, decide_eq_false h2, decide_eq_false h3]; rfl
        go_enter Try.func26, Try.ntmps26
        go_wp2
        go_ret
        exact ⟨by rw [HR.out]; rfl, (Below.refl _ _).alloc (Nat.le_refl _) _⟩
  · have d1 : decide (10 ≤ fe) = false := decide_eq_false h1
    have HR : Hid (g = false) := by show _ = _; rw [HM.out, d1]; rfl
    go_enter Try.func26, Try.ntmps26
    go_wp2
    go_ret
    exact ⟨by rw [HR.out]; rfl, (Below.refl _ _).alloc (Nat.le_refl _) _⟩
set_option maxRecDepth 100000 in
set_option maxHeartbeats 1000000 in
theorem inRange_any (f : FactP) (A : Option Addr) (n c : Nat) (w : World) :
    Calls Try.prog 27 #[.agg #[.int .i64 f.e, .int .i64 f.a, .int .i64 f.k, .int .i64 f.m, .string f.s, .slice A n c]] w fun e w' => e = .returned (.bool (rgB f)) ∧ Below w.heap.size w w' := by
  obtain ⟨fe, fa, fk, fm, fs, fl⟩ := f
  by_cases h2 : fa = 2
  · subst h2
    have HM : Hid (rgB ⟨fe, 2, fk, fm, fs, fl⟩ = (decide (1 ≤ fm) && decide (fm ≤ 7))) := rfl
    simp only
    by_cases h1 : 1 ≤ fm
    · rw [decide_eq_true h1] at HM
      by_cases h7 : fm ≤ 7
      · rw [decide_eq_true h7] at HM
        go_enter Try.func27, Try.ntmps27
        go_wp2
        go_ret
        exact ⟨by rw [HM.out]; rfl, (Below.refl _ _).alloc (Nat.le_refl _) _⟩
      · rw [decide_eq_false h7] at HM
        go_enter Try.func27, Try.ntmps27
        go_wp2
        go_ret
        exact ⟨by rw [HM.out]; rfl, (Below.refl _ _).alloc (Nat.le_refl _) _⟩
    · rw [decide_eq_false h1] at HM
      go_enter Try.func27, Try.ntmps27
      go_wp2
      go_ret
      exact ⟨by rw [HM.out]; rfl, (Below.refl _ _).alloc (Nat.le_refl _) _⟩
  · have d2 : (fa == 2) = false := beq_eq_false_iff_ne.2 h2
    by_cases h4 : fa = 4
    · subst h4
      have HM : Hid (rgB ⟨fe, 4, fk, fm, fs, fl⟩ = (decide (0 ≤ fm) && decide (fm ≤ 2))) := rfl
      simp only
      by_cases h1 : 0 ≤ fm
      · rw [decide_eq_true h1] at HM
        by_cases h7 : fm ≤ 2
        · rw [decide_eq_true h7] at HM
          go_enter Try.func27, Try.ntmps27
          go_wp2
          go_ret
          exact ⟨by rw [HM.out]; rfl, (Below.refl _ _).alloc (Nat.le_refl _) _⟩
        · rw [decide_eq_false h7] at HM
          go_enter Try.func27, Try.ntmps27
          go_wp2
          go_ret
          exact ⟨by rw [HM.out]; rfl, (Below.refl _ _).alloc (Nat.le_refl _) _⟩
      · rw [decide_eq_false h1] at HM
        go_enter Try.func27, Try.ntmps27
        go_wp2
        go_ret
        exact ⟨by rw [HM.out]; rfl, (Below.refl _ _).alloc (Nat.le_refl _) _⟩
    · have d4 : (fa == 4) = false := beq_eq_false_iff_ne.2 h4
      have HM : Hid (rgB ⟨fe, fa, fk, fm, fs, fl⟩ = true) := by show _ = _; unfold rgB; simp only; rw [if_neg h2, if_neg h4]
      simp only
      go_enter Try.func27, Try.ntmps27
      go_wp2
      go_ret
      exact ⟨by rw [HM.out]; rfl, (Below.refl _ _).alloc (Nat.le_refl _) _⟩
/-- the whole span -/
def allS : List Sp := [(minT, maxT)]
def whB (l : List Sp) : Bool := covB l allS
set_option maxRecDepth 100000 in
set_option maxHeartbeats 1000000 in
theorem isWhole_any (A : Option Addr) (c : Nat) (l : List Sp) (w : World) (hs : SlS w w.heap.size A l) (hlc : l.length ≤ c) (hc : c ≤ maxLen) (hl : 2 * l.length + 2 ≤ 3000) (hk : ∀ s ∈ l, SpOk s) :
    Calls Try.prog 39 #[.slice A l.length c] w fun e w' => e = .returned (.bool (whB l)) ∧ Below w.heap.size w w' := by
  have HS := Lib.hid hs
  obtain ⟨w1, hw1⟩ : ∃ w1, w.alloc (.cells #[.int .i64 (-9223372036854775808), .int .i64 9223372036854775807] 34) = w1 := ⟨_, rfl⟩
  have HB1 : Hid (Below w.heap.size w w1) := by show Below _ _ _; rw [← hw1]; exact (Below.refl _ _).alloc (Nat.le_refl _) _
  have h2 : SlS w1 w1.heap.size (some ⟨w.heap.size, 0, none⟩) allS := by
    rw [← hw1]
    refine fun _ => ⟨w.heap.size, 0, rfl, by simp, fun j q hq => ?_⟩
    have hh := heap_alloc_new w (.cells #[.int .i64 (-9223372036854775808), .int .i64 9223372036854775807] 34)
    cases j with
    | zero =>
      cases hq
      exact ⟨by unfold World.cell?; simp only [Nat.zero_mul, Nat.add_zero]; rw [hh]; rfl, by unfold World.cell?; simp only [Nat.zero_mul, Nat.add_zero, Nat.zero_add]; rw [hh]; rfl⟩
    | succ j => simp [allS] at hq
  have HC := Lib.hid (coversS_any A (some ⟨w.heap.size, 0, none⟩) c 1 l allS w1 ((hs.next HB1.out (Nat.le_refl _)).more HB1.out.size) h2 hlc hc (Nat.le_refl _) (by decide) (by show 2 * l.length + 2 * 1 ≤ 3000; omega) hk (fun s hs => by rw [List.mem_singleton.1 hs]; exact ⟨⟨by decide, by decide⟩, by decide, by decide⟩))
  clear hs h2
  go_enter Try.func39, Try.ntmps39
  go_wp2_with fail
  refine (show Calls _ _ #[.slice A l.length c, .slice (some ⟨w.heap.size, 0, none⟩) 1 1] w1 _ from HC.out).mono ?_
  rintro e w2 ⟨rfl, hb2⟩
  have HB2 := Lib.hid (HB1.out.trans (hb2.mono HB1.out.size))
  clear hb2 HC
  go_wp2
  go_ret
  exact ⟨rfl, HB2.out⟩
end Go.Proofs.Ytlmihlepaoifiaa

/-
  CONTRACTS: the closures of the rows that ask one fact, or one attribute.
-/
namespace Go.Proofs.Ytlmihlepaoifiaa
open Go.RowKit Go.Maps Go.Shelf

theorem fldA2 (i : Int) (s : ByteArray) (ty un : Int) (m p x : Bool) (W : World) : (Instr.field 39 (.agg #[.int .i64 i, .string s, .int .i64 ty, .bool m, .int .i64 un, .bool p, .bool x]) 2).run Try.prog W = .ok (.int .i64 ty) W := by kernel_rfl
theorem fldA3 (i : Int) (s : ByteArray) (ty un : Int) (m p x : Bool) (W : World) : (Instr.field 39 (.agg #[.int .i64 i, .string s, .int .i64 ty, .bool m, .int .i64 un, .bool p, .bool x]) 3).run Try.prog W = .ok (.bool m) W := by kernel_rfl
theorem fldA4 (i : Int) (s : ByteArray) (ty un : Int) (m p x : Bool) (W : World) : (Instr.field 39 (.agg #[.int .i64 i, .string s, .int .i64 ty, .bool m, .int .i64 un, .bool p, .bool x]) 4).run Try.prog W = .ok (.int .i64 un) W := by kernel_rfl
attribute [local go_sem] fldA2 fldA3 fldA4
/-- what the closures hold: the map by numbers, the closure that asks it -/
structure RwE (W : World) (bB bM bI : Nat) (T : List Att) : Prop where
  mp : Boxed W bB 62 (.map (some bM))
  map : MapAt W bM T
  is : Boxed W bI 63 (.func (.func 19) #[] #[.pointer (some ⟨bB, 0, none⟩)])
theorem RwE.next {W W' : World} {bB bM bI : Nat} {T : List Att} (h : RwE W bB bM bI T) (hb : Below W.heap.size W W') : RwE W' bB bM bI T :=
  ⟨(hb.block bB h.mp.lt).trans h.mp, h.map.next hb, (hb.block bI h.is.lt).trans h.is⟩
/-- what is asked of a fact's numbers -/
def WfF (f : FactP) : Prop := (Lit.int .i64 f.a).wf = true ∧ (Lit.int .i64 f.e).wf = true
def a1B (T : List Att) (f : FactP) : Bool := !isB T f.a
def a2B (T : List Att) (f : FactP) : Bool := (!(f.k == (lookT T f.a).ty) || (mkB f && !isB T f.e)) || !rgB f
def a3B (T : List Att) (f : FactP) : Bool := !(lookT T f.a).many
def a4B (T : List Att) (f : FactP) : Bool := decide (0 < (lookT T f.a).un)
def a5B (f : FactP) : Bool := decide (f.a < 10) && !whB f.l
def a6B (a : Att) : Bool := a.part && !(a.ty == 5)
set_option maxRecDepth 100000 in
set_option maxHeartbeats 1000000 in
theorem ask1_any (T : List Att) (bB bM bI : Nat) (f : FactP) (A : Option Addr) (n c : Nat) (w : World) (h : RwE w bB bM bI T) (hf : WfF f) :
    Calls Try.prog 23 #[.agg #[.int .i64 f.e, .int .i64 f.a, .int .i64 f.k, .int .i64 f.m, .string f.s, .slice A n c], .pointer (some ⟨bI, 0, none⟩)] w fun e w' => e = .returned (.bool (a1B T f)) ∧ Below w.heap.size w w' := by
  have HM : Hid (a1B T f = !isB T f.a) := rfl
  obtain ⟨w1, hw1⟩ : ∃ w1, w.alloc (.cells #[.int .i64 f.e, .int .i64 f.a, .int .i64 f.k, .int .i64 f.m, .string f.s, .slice A n c] 30) = w1 := ⟨_, rfl⟩
  have hb1 : Below w.heap.size w w1 := by rw [← hw1]; exact (Below.refl _ _).alloc (Nat.le_refl _) _
  have hx := fcBx_new w f (.slice A n c)
  rw [hw1] at hx
  have h1 := h.next hb1
  have HC := Lib.hid (isAttr_any T bB bM f.a hf.1 w1 h1.mp h1.map)
  have b0 := h1.is.cell
  have c1 := hx.k1
  have HB1 := Lib.hid hb1
  clear h hf hb1 hx h1
  go_enter Try.func23, Try.ntmps23
  go_wp2_with fail
  refine HC.out.mono ?_
  rintro e w2 ⟨rfl, hb2⟩
  have HB2 := Lib.hid (HB1.out.trans (hb2.mono HB1.out.size))
  clear hb2 HC hw1 b0 c1
  go_wp2
  go_ret
  exact ⟨by rw [HM.out]; rfl, HB2.out⟩
set_option maxRecDepth 100000 in
set_option maxHeartbeats 2000000 in
theorem ask2_any (T : List Att) (bB bM bI : Nat) (f : FactP) (A : Option Addr) (n c : Nat) (w : World) (h : RwE w bB bM bI T) (hf : WfF f) :
    Calls Try.prog 25 #[.agg #[.int .i64 f.e, .int .i64 f.a, .int .i64 f.k, .int .i64 f.m, .string f.s, .slice A n c], .pointer (some ⟨bB, 0, none⟩), .pointer (some ⟨bI, 0, none⟩)] w fun e w' => e = .returned (.bool (a2B T f)) ∧ Below w.heap.size w w' := by
  have HM : Hid (a2B T f = ((!(f.k == (lookT T f.a).ty) || (mkB f && !isB T f.e)) || !rgB f)) := rfl
  obtain ⟨w1, hw1⟩ : ∃ w1, w.alloc (.cells #[.int .i64 f.e, .int .i64 f.a, .int .i64 f.k, .int .i64 f.m, .string f.s, .slice A n c] 30) = w1 := ⟨_, rfl⟩
  have hb1 : Below w.heap.size w w1 := by rw [← hw1]; exact (Below.refl _ _).alloc (Nat.le_refl _) _
  have hx := fcBx_new w f (.slice A n c)
  rw [hw1] at hx
  have h1 := h.next hb1
  have HX := Lib.hid hx
  have HR := Lib.hid h1
  have b0 := h1.mp.cell
  have hl := h1.map.get f.a hf.1
  obtain ⟨y, hy⟩ : ∃ y, lookT T f.a = y := ⟨_, rfl⟩
  rw [hy] at hl HM
  unfold attV at hl
  have c0 := hx.k0
  have c1 := hx.k1
  have c2 := hx.k2
  have c3 := hx.k3
  have c4 := hx.k4
  have c5 := hx.k5
  have HB1 := Lib.hid hb1
  have HF := Lib.hid hf
  have HMK := Lib.hid (fun X => makes_any f A n c X)
  have HRG := Lib.hid (fun X => inRange_any f A n c X)
  obtain ⟨mk, hmk⟩ : ∃ g, mkB f = g := ⟨_, rfl⟩
  obtain ⟨rg, hrg⟩ : ∃ g, rgB f = g := ⟨_, rfl⟩
  rw [hmk] at HMK HM
  rw [hrg] at HRG HM
  clear h hf hb1 hx h1 hy hmk hrg
  by_cases hke : f.k = y.ty
  rotate_left
  · have d0 : (f.k == y.ty) = false := beq_eq_false_iff_ne.2 hke
    have d1 : (f.k != y.ty) = true := by unfold bne; rw [d0]; rfl
    rw [d0] at HM
    clear d0
    go_enter Try.func25, Try.ntmps25
    go_wp2_with fail
    go_ret
    exact ⟨by rw [HM.out]; rfl, HB1.out⟩
  · have d0 : (f.k == y.ty) = true := beq_iff_eq.2 hke
    have d1 : (f.k != y.ty) = false := by unfold bne; rw [d0]; rfl
    rw [d0] at HM
    clear d0
    clear hke
    go_enter Try.func25, Try.ntmps25
    go_wp2_with fail
    refine (HMK.out _).mono ?_
    rintro e w2 ⟨rfl, hb2⟩
    have HB2 := Lib.hid (HB1.out.trans (hb2.mono HB1.out.size))
    have HX2 := Lib.hid (HX.out.next hb2)
    have HR2 := Lib.hid (HR.out.next hb2)
    clear hb2 hw1 b0 hl c0 c1 c2 c3 c4 c5 HMK HX HR
    have c0 := HX2.out.k0
    have c1 := HX2.out.k1
    have c2 := HX2.out.k2
    have c3 := HX2.out.k3
    have c4 := HX2.out.k4
    have c5 := HX2.out.k5
    cases mk with
    | false =>
      go_wp2_with fail
      refine (HRG.out _).mono ?_
      rintro e w3 ⟨rfl, hb3⟩
      have HB3 := Lib.hid (HB2.out.trans (hb3.mono HB2.out.size))
      clear hb3 c0 c1 c2 c3 c4 c5 HRG
      go_wp2
      go_ret
      exact ⟨by rw [HM.out]; rfl, HB3.out⟩
    | true =>
      have b0 := HR2.out.is.cell
      go_wp2_with fail
      refine (isAttr_any T bB bM f.e HF.out.2 w2 HR2.out.mp HR2.out.map).mono ?_
      rintro e w3 ⟨rfl, hb3⟩
      have HB3 := Lib.hid (HB2.out.trans (hb3.mono HB2.out.size))
      have HX3 := Lib.hid (HX2.out.next hb3)
      obtain ⟨v, hv⟩ : ∃ v, isB T f.e = v := ⟨_, rfl⟩
      rw [hv] at HM ⊢
      clear hb3 c0 c1 c2 c3 c4 c5 b0 hv
      have c0 := HX3.out.k0
      have c1 := HX3.out.k1
      have c2 := HX3.out.k2
      have c3 := HX3.out.k3
      have c4 := HX3.out.k4
      have c5 := HX3.out.k5
      cases v with
      | false =>
        go_wp2
        go_ret
        exact ⟨by rw [HM.out]; rfl, HB3.out⟩
      | true =>
        go_wp2_with fail
        refine (HRG.out _).mono ?_
        rintro e w4 ⟨rfl, hb4⟩
        have HB4 := Lib.hid (HB3.out.trans (hb4.mono HB3.out.size))
        clear hb4 c0 c1 c2 c3 c4 c5 HRG
        go_wp2
        go_ret
        exact ⟨by rw [HM.out]; rfl, HB4.out⟩
set_option maxRecDepth 100000 in
set_option maxHeartbeats 1000000 in
theorem ask3_any (T : List Att) (bB bM : Nat) (f : FactP) (A : Option Addr) (n c : Nat) (w : World) (hmp : Boxed w bB 62 (.map (some bM))) (hm : MapAt w bM T) (hf : WfF f) :
    Calls Try.prog 29 #[.agg #[.int .i64 f.e, .int .i64 f.a, .int .i64 f.k, .int .i64 f.m, .string f.s, .slice A n c], .pointer (some ⟨bB, 0, none⟩)] w fun e w' => e = .returned (.bool (a3B T f)) ∧ Below w.heap.size w w' := by
  have HM : Hid (a3B T f = !(lookT T f.a).many) := rfl
  obtain ⟨w1, hw1⟩ : ∃ w1, w.alloc (.cells #[.int .i64 f.e, .int .i64 f.a, .int .i64 f.k, .int .i64 f.m, .string f.s, .slice A n c] 30) = w1 := ⟨_, rfl⟩
  have hb1 : Below w.heap.size w w1 := by rw [← hw1]; exact (Below.refl _ _).alloc (Nat.le_refl _) _
  have hx := fcBx_new w f (.slice A n c)
  rw [hw1] at hx
  have b0 := Boxed.cell (show Boxed w1 bB _ _ from (hb1.block bB hmp.lt).trans hmp)
  have hl := (hm.next hb1).get f.a hf.1
  obtain ⟨y, hy⟩ : ∃ y, lookT T f.a = y := ⟨_, rfl⟩
  rw [hy] at hl HM
  unfold attV at hl
  have c1 := hx.k1
  have HB1 := Lib.hid hb1
  clear hmp hm hf hb1 hx hy
  go_enter Try.func29, Try.ntmps29
  go_wp2
  go_ret
  exact ⟨by rw [HM.out]; rfl, HB1.out⟩
set_option maxRecDepth 100000 in
set_option maxHeartbeats 1000000 in
theorem ask4_any (T : List Att) (bB bM : Nat) (f : FactP) (A : Option Addr) (n c : Nat) (w : World) (hmp : Boxed w bB 62 (.map (some bM))) (hm : MapAt w bM T) (hf : WfF f) :
    Calls Try.prog 35 #[.agg #[.int .i64 f.e, .int .i64 f.a, .int .i64 f.k, .int .i64 f.m, .string f.s, .slice A n c], .pointer (some ⟨bB, 0, none⟩)] w fun e w' => e = .returned (.bool (a4B T f)) ∧ Below w.heap.size w w' := by
  have HM : Hid (a4B T f = decide (0 < (lookT T f.a).un)) := rfl
  obtain ⟨w1, hw1⟩ : ∃ w1, w.alloc (.cells #[.int .i64 f.e, .int .i64 f.a, .int .i64 f.k, .int .i64 f.m, .string f.s, .slice A n c] 30) = w1 := ⟨_, rfl⟩
  have hb1 : Below w.heap.size w w1 := by rw [← hw1]; exact (Below.refl _ _).alloc (Nat.le_refl _) _
  have hx := fcBx_new w f (.slice A n c)
  rw [hw1] at hx
  have b0 := Boxed.cell (show Boxed w1 bB _ _ from (hb1.block bB hmp.lt).trans hmp)
  have hl := (hm.next hb1).get f.a hf.1
  obtain ⟨y, hy⟩ : ∃ y, lookT T f.a = y := ⟨_, rfl⟩
  rw [hy] at hl HM
  unfold attV at hl
  have c1 := hx.k1
  have HB1 := Lib.hid hb1
  clear hmp hm hf hb1 hx hy
  go_enter Try.func35, Try.ntmps35
  go_wp2
  go_ret
  exact ⟨by rw [HM.out]; rfl, HB1.out⟩
set_option maxRecDepth 100000 in
set_option maxHeartbeats 1000000 in
theorem ask5_any (f : FactP) (A : Option Addr) (c : Nat) (w : World) (hs : SlS w w.heap.size A f.l) (hlc : f.l.length ≤ c) (hc : c ≤ maxLen) (hl : 2 * f.l.length + 2 ≤ 3000) (hk : ∀ s ∈ f.l, SpOk s) :
    Calls Try.prog 38 #[.agg #[.int .i64 f.e, .int .i64 f.a, .int .i64 f.k, .int .i64 f.m, .string f.s, .slice A f.l.length c]] w fun e w' => e = .returned (.bool (a5B f)) ∧ Below w.heap.size w w' := by
  have HM : Hid (a5B f = (decide (f.a < 10) && !whB f.l)) := rfl
  obtain ⟨w1, hw1⟩ : ∃ w1, w.alloc (.cells #[.int .i64 f.e, .int .i64 f.a, .int .i64 f.k, .int .i64 f.m, .string f.s, .slice A f.l.length c] 30) = w1 := ⟨_, rfl⟩
  have hb1 : Below w.heap.size w w1 := by rw [← hw1]; exact (Below.refl _ _).alloc (Nat.le_refl _) _
  have hx := fcBx_new w f (.slice A f.l.length c)
  rw [hw1] at hx
  have HC := Lib.hid (isWhole_any A c f.l w1 ((hs.next hb1 (Nat.le_refl _)).more hb1.size) hlc hc hl hk)
  have c1 := hx.k1
  have c5 := hx.k5
  have HB1 := Lib.hid hb1
  clear hs hlc hc hl hk hb1 hx
  by_cases h : f.a < 10
  · rw [decide_eq_true h] at HM
    go_enter Try.func38, Try.ntmps38
    go_wp2_with fail
    refine HC.out.mono ?_
    rintro e w2 ⟨rfl, hb2⟩
    have HB2 := Lib.hid (HB1.out.trans (hb2.mono HB1.out.size))
    clear hb2 HC hw1 c1 c5
    go_wp2
    go_ret
    exact ⟨by rw [HM.out]; rfl, HB2.out⟩
  · rw [decide_eq_false h] at HM
    go_enter Try.func38, Try.ntmps38
    go_wp2
    go_ret
    exact ⟨by rw [HM.out]; rfl, HB1.out⟩
set_option maxRecDepth 100000 in
set_option maxHeartbeats 1000000 in
theorem ask6_any (a : Att) (w : World) :
    Calls Try.prog 42 #[.agg #[.int .i64 a.id, .string a.nm, .int .i64 a.ty, .bool a.many, .int .i64 a.un, .bool a.part, .bool a.ix]] w fun e w' => e = .returned (.bool (a6B a)) ∧ Below w.heap.size w w' := by
  obtain ⟨a1, a2, a3, a4, a5, a6, a7⟩ := a
  simp only
  cases a6
  · go_enter Try.func42, Try.ntmps42
    go_wp2
    go_ret
    exact ⟨rfl, (Below.refl _ _).alloc (Nat.le_refl _) _⟩
  · go_enter Try.func42, Try.ntmps42
    go_wp2
    go_ret
    exact ⟨rfl, (Below.refl _ _).alloc (Nat.le_refl _) _⟩
end Go.Proofs.Ytlmihlepaoifiaa

/-
  CONTRACTS: slices.ContainsFunc at facts and at attributes, by the closures of the rows.
-/
namespace Go.Proofs.Ytlmihlepaoifiaa
open Go.RowKit Go.Maps Go.Shelf

set_option maxRecDepth 100000 in
set_option maxHeartbeats 2000000 in
theorem idxF1_any (bI : Nat) (p : FactP → Bool) (A0 : Option Addr) (c0 : Nat) (fs : List FactP) (w : World) (hs : FVa w (.slice A0 fs.length c0) fs) (hl : fs.length ≤ 1000000)
    (hp : ∀ f ∈ fs, ∀ (A : Option Addr) (c : Nat) (W : World), SlS W W.heap.size A f.l → f.l.length ≤ c → c ≤ maxLen → Below w.heap.size w W → Calls Try.prog 23 #[.agg #[.int .i64 f.e, .int .i64 f.a, .int .i64 f.k, .int .i64 f.m, .string f.s, .slice A f.l.length c], .pointer (some ⟨bI, 0, none⟩)] W fun e w' => e = .returned (.bool (p f)) ∧ Below W.heap.size W w') :
    Calls Try.prog 48 #[.slice A0 fs.length c0, .func (.func 23) #[] #[.pointer (some ⟨bI, 0, none⟩)]] w fun e w' => ((fs.any p = true ∧ ∃ j : Nat, e = .returned (.int .i64 j)) ∨ (fs.any p = false ∧ e = .returned (.int .i64 (-1)))) ∧ Below w.heap.size w w' := by
  have HS := Lib.hid hs
  have HP := Lib.hid hp
  clear hs hp
  go_enter Try.func48, Try.ntmps48
  go_wp2
  go_loopg [8] fs.length (fun g i wr => ∃ j : Nat, i = .int .i64 j ∧ j + g = fs.length ∧ Hid (∀ f ∈ fs.take j, p f = false) ∧ Hid (Below w.heap.size w wr))
  case atStart => exact ⟨0, rfl, by omega, (fun f h => by cases h), Below.refl _ _⟩
  case round =>
    obtain ⟨j, rfl, hj, HN, HB⟩ := hrel
    cases gk with
    | zero =>
      have hji : ¬ (j : Int) < (fs.length : Int) := by omega
      have HF : Hid (fs.any p = false) := by
        show _ = _
        rw [List.any_eq_false]
        intro f hf
        have := HN.out
        rw [List.take_of_length_le (by omega)] at this
        simp [this f hf]
      go_wp2
      go_ret
      exact ⟨.inr ⟨fun x hx => by simpa using List.any_eq_false.1 HF.out x hx, rfl⟩, HB.out⟩
    | succ g =>
      have hji : (j : Int) < (fs.length : Int) := by omega
      have hjn : j < fs.length := by omega
      obtain ⟨b, o, sv, rfl, hlt, hc, hsv⟩ := fva_at (HS.out.next HB.out) hjn
      have hmem : fs[j] ∈ fs := List.getElem_mem hjn
      have htk : fs.take (j + 1) = fs.take j ++ [fs[j]] := by rw [List.take_add_one, List.getElem?_eq_getElem hjn]; rfl
      obtain ⟨f, hf⟩ : ∃ f, fs[j] = f := ⟨_, rfl⟩
      rw [hf] at hc hsv hmem htk
      have HTK := Lib.hid htk
      have HMEM := Lib.hid hmem
      obtain ⟨As, cs, rfl, hss, hlc, hcm⟩ := hsv
      have HC := Lib.hid (HP.out f hmem As cs wr hss hlc hcm HB.out)
      obtain ⟨v, hv⟩ : ∃ v, p f = v := ⟨_, rfl⟩
      rw [hv] at HC
      have HV := Lib.hid hv
      have c0 := hc.1
      have c1 := hc.2.1
      have c2 := hc.2.2.1
      have c3 := hc.2.2.2.1
      have c4 := hc.2.2.2.2.1
      have c5 := hc.2.2.2.2.2
      clear hc hf hss hlc hcm hmem htk hv
      go_wp2_with fail
      refine HC.out.mono ?_
      rintro e w2 ⟨rfl, hb2⟩
      have HB2 := Lib.hid (HB.out.trans (hb2.mono HB.out.size))
      clear hb2 HC c0 c1 c2 c3 c4 c5
      cases v with
      | true =>
        have HF : Hid (fs.any p = true) := List.any_eq_true.2 ⟨f, HMEM.out, HV.out⟩
        go_wp2
        go_ret
        exact ⟨.inl ⟨HF.out, j, rfl⟩, HB2.out⟩
      | false =>
        go_wp2
        go_roundg g
        case measure => omega
        case rel => exact ⟨j + 1, by go_num, by omega, (by
          show ∀ _, _
          rw [HTK.out]
          intro q hq
          rcases List.mem_append.1 hq with h | h
          · exact HN.out q h
          · rw [List.mem_singleton.1 h]; exact HV.out), HB2.out⟩
set_option maxRecDepth 100000 in
set_option maxHeartbeats 1000000 in
theorem someF1_any (bI : Nat) (p : FactP → Bool) (A0 : Option Addr) (c0 : Nat) (fs : List FactP) (w : World) (hs : FVa w (.slice A0 fs.length c0) fs) (hl : fs.length ≤ 1000000)
    (hp : ∀ f ∈ fs, ∀ (A : Option Addr) (c : Nat) (W : World), SlS W W.heap.size A f.l → f.l.length ≤ c → c ≤ maxLen → Below w.heap.size w W → Calls Try.prog 23 #[.agg #[.int .i64 f.e, .int .i64 f.a, .int .i64 f.k, .int .i64 f.m, .string f.s, .slice A f.l.length c], .pointer (some ⟨bI, 0, none⟩)] W fun e w' => e = .returned (.bool (p f)) ∧ Below W.heap.size W w') :
    Calls Try.prog 21 #[.slice A0 fs.length c0, .func (.func 23) #[] #[.pointer (some ⟨bI, 0, none⟩)]] w fun e w' => e = .returned (.bool (fs.any p)) ∧ Below w.heap.size w w' := by
  have HC := Lib.hid (idxF1_any bI p A0 c0 fs w hs hl hp)
  clear hs hp
  go_enter Try.func21, Try.ntmps21
  go_wp2_with fail
  refine HC.out.mono ?_
  rintro e w1 ⟨⟨hv, j, rfl⟩ | ⟨hv, rfl⟩, hb⟩
  · have HV := Lib.hid hv
    have HB := Lib.hid hb
    have h0 : (0 : Int) ≤ (j : Int) := by omega
    clear hv hb HC
    go_wp2
    go_ret
    exact ⟨by rw [HV.out]; rfl, HB.out⟩
  · have HV := Lib.hid hv
    have HB := Lib.hid hb
    clear hv hb HC
    go_wp2
    go_ret
    exact ⟨by rw [HV.out]; rfl, HB.out⟩
set_option maxRecDepth 100000 in
set_option maxHeartbeats 2000000 in
theorem idxF2_any (bB : Nat) (bI : Nat) (p : FactP → Bool) (A0 : Option Addr) (c0 : Nat) (fs : List FactP) (w : World) (hs : FVa w (.slice A0 fs.length c0) fs) (hl : fs.length ≤ 1000000)
    (hp : ∀ f ∈ fs, ∀ (A : Option Addr) (c : Nat) (W : World), SlS W W.heap.size A f.l → f.l.length ≤ c → c ≤ maxLen → Below w.heap.size w W → Calls Try.prog 25 #[.agg #[.int .i64 f.e, .int .i64 f.a, .int .i64 f.k, .int .i64 f.m, .string f.s, .slice A f.l.length c], .pointer (some ⟨bB, 0, none⟩), .pointer (some ⟨bI, 0, none⟩)] W fun e w' => e = .returned (.bool (p f)) ∧ Below W.heap.size W w') :
    Calls Try.prog 48 #[.slice A0 fs.length c0, .func (.func 25) #[] #[.pointer (some ⟨bB, 0, none⟩), .pointer (some ⟨bI, 0, none⟩)]] w fun e w' => ((fs.any p = true ∧ ∃ j : Nat, e = .returned (.int .i64 j)) ∨ (fs.any p = false ∧ e = .returned (.int .i64 (-1)))) ∧ Below w.heap.size w w' := by
  have HS := Lib.hid hs
  have HP := Lib.hid hp
  clear hs hp
  go_enter Try.func48, Try.ntmps48
  go_wp2
  go_loopg [8] fs.length (fun g i wr => ∃ j : Nat, i = .int .i64 j ∧ j + g = fs.length ∧ Hid (∀ f ∈ fs.take j, p f = false) ∧ Hid (Below w.heap.size w wr))
  case atStart => exact ⟨0, rfl, by omega, (fun f h => by cases h), Below.refl _ _⟩
  case round =>
    obtain ⟨j, rfl, hj, HN, HB⟩ := hrel
    cases gk with
    | zero =>
      have hji : ¬ (j : Int) < (fs.length : Int) := by omega
      have HF : Hid (fs.any p = false) := by
        show _ = _
        rw [List.any_eq_false]
        intro f hf
        have := HN.out
        rw [List.take_of_length_le (by omega)] at this
        simp [this f hf]
      go_wp2
      go_ret
      exact ⟨.inr ⟨fun x hx => by simpa using List.any_eq_false.1 HF.out x hx, rfl⟩, HB.out⟩
    | succ g =>
      have hji : (j : Int) < (fs.length : Int) := by omega
      have hjn : j < fs.length := by omega
      obtain ⟨b, o, sv, rfl, hlt, hc, hsv⟩ := fva_at (HS.out.next HB.out) hjn
      have hmem : fs[j] ∈ fs := List.getElem_mem hjn
      have htk : fs.take (j + 1) = fs.take j ++ [fs[j]] := by rw [List.take_add_one, List.getElem?_eq_getElem hjn]; rfl
      obtain ⟨f, hf⟩ : ∃ f, fs[j] = f := ⟨_, rfl⟩
      rw [hf] at hc hsv hmem htk
      have HTK := Lib.hid htk
      have HMEM := Lib.hid hmem
      obtain ⟨As, cs, rfl, hss, hlc, hcm⟩ := hsv
      have HC := Lib.hid (HP.out f hmem As cs wr hss hlc hcm HB.out)
      obtain ⟨v, hv⟩ : ∃ v, p f = v := ⟨_, rfl⟩
      rw [hv] at HC
      have HV := Lib.hid hv
      have c0 := hc.1
      have c1 := hc.2.1
      have c2 := hc.2.2.1
      have c3 := hc.2.2.2.1
      have c4 := hc.2.2.2.2.1
      have c5 := hc.2.2.2.2.2
      clear hc hf hss hlc hcm hmem htk hv
      go_wp2_with fail
      refine HC.out.mono ?_
      rintro e w2 ⟨rfl, hb2⟩
      have HB2 := Lib.hid (HB.out.trans (hb2.mono HB.out.size))
      clear hb2 HC c0 c1 c2 c3 c4 c5
      cases v with
      | true =>
        have HF : Hid (fs.any p = true) := List.any_eq_true.2 ⟨f, HMEM.out, HV.out⟩
        go_wp2
        go_ret
        exact ⟨.inl ⟨HF.out, j, rfl⟩, HB2.out⟩
      | false =>
        go_wp2
        go_roundg g
        case measure => omega
        case rel => exact ⟨j + 1, by go_num, by omega, (by
          show ∀ _, _
          rw [HTK.out]
          intro q hq
          rcases List.mem_append.1 hq with h | h
          · exact HN.out q h
          · rw [List.mem_singleton.1 h]; exact HV.out), HB2.out⟩
set_option maxRecDepth 100000 in
set_option maxHeartbeats 1000000 in
theorem someF2_any (bB : Nat) (bI : Nat) (p : FactP → Bool) (A0 : Option Addr) (c0 : Nat) (fs : List FactP) (w : World) (hs : FVa w (.slice A0 fs.length c0) fs) (hl : fs.length ≤ 1000000)
    (hp : ∀ f ∈ fs, ∀ (A : Option Addr) (c : Nat) (W : World), SlS W W.heap.size A f.l → f.l.length ≤ c → c ≤ maxLen → Below w.heap.size w W → Calls Try.prog 25 #[.agg #[.int .i64 f.e, .int .i64 f.a, .int .i64 f.k, .int .i64 f.m, .string f.s, .slice A f.l.length c], .pointer (some ⟨bB, 0, none⟩), .pointer (some ⟨bI, 0, none⟩)] W fun e w' => e = .returned (.bool (p f)) ∧ Below W.heap.size W w') :
    Calls Try.prog 21 #[.slice A0 fs.length c0, .func (.func 25) #[] #[.pointer (some ⟨bB, 0, none⟩), .pointer (some ⟨bI, 0, none⟩)]] w fun e w' => e = .returned (.bool (fs.any p)) ∧ Below w.heap.size w w' := by
  have HC := Lib.hid (idxF2_any bB bI p A0 c0 fs w hs hl hp)
  clear hs hp
  go_enter Try.func21, Try.ntmps21
  go_wp2_with fail
  refine HC.out.mono ?_
  rintro e w1 ⟨⟨hv, j, rfl⟩ | ⟨hv, rfl⟩, hb⟩
  · have HV := Lib.hid hv
    have HB := Lib.hid hb
    have h0 : (0 : Int) ≤ (j : Int) := by omega
    clear hv hb HC
    go_wp2
    go_ret
    exact ⟨by rw [HV.out]; rfl, HB.out⟩
  · have HV := Lib.hid hv
    have HB := Lib.hid hb
    clear hv hb HC
    go_wp2
    go_ret
    exact ⟨by rw [HV.out]; rfl, HB.out⟩
set_option maxRecDepth 100000 in
set_option maxHeartbeats 2000000 in
theorem idxF5_any (p : FactP → Bool) (A0 : Option Addr) (c0 : Nat) (fs : List FactP) (w : World) (hs : FVa w (.slice A0 fs.length c0) fs) (hl : fs.length ≤ 1000000)
    (hp : ∀ f ∈ fs, ∀ (A : Option Addr) (c : Nat) (W : World), SlS W W.heap.size A f.l → f.l.length ≤ c → c ≤ maxLen → Below w.heap.size w W → Calls Try.prog 38 #[.agg #[.int .i64 f.e, .int .i64 f.a, .int .i64 f.k, .int .i64 f.m, .string f.s, .slice A f.l.length c]] W fun e w' => e = .returned (.bool (p f)) ∧ Below W.heap.size W w') :
    Calls Try.prog 48 #[.slice A0 fs.length c0, .func (.func 38) #[] #[]] w fun e w' => ((fs.any p = true ∧ ∃ j : Nat, e = .returned (.int .i64 j)) ∨ (fs.any p = false ∧ e = .returned (.int .i64 (-1)))) ∧ Below w.heap.size w w' := by
  have HS := Lib.hid hs
  have HP := Lib.hid hp
  clear hs hp
  go_enter Try.func48, Try.ntmps48
  go_wp2
  go_loopg [8] fs.length (fun g i wr => ∃ j : Nat, i = .int .i64 j ∧ j + g = fs.length ∧ Hid (∀ f ∈ fs.take j, p f = false) ∧ Hid (Below w.heap.size w wr))
  case atStart => exact ⟨0, rfl, by omega, (fun f h => by cases h), Below.refl _ _⟩
  case round =>
    obtain ⟨j, rfl, hj, HN, HB⟩ := hrel
    cases gk with
    | zero =>
      have hji : ¬ (j : Int) < (fs.length : Int) := by omega
      have HF : Hid (fs.any p = false) := by
        show _ = _
        rw [List.any_eq_false]
        intro f hf
        have := HN.out
        rw [List.take_of_length_le (by omega)] at this
        simp [this f hf]
      go_wp2
      go_ret
      exact ⟨.inr ⟨fun x hx => by simpa using List.any_eq_false.1 HF.out x hx, rfl⟩, HB.out⟩
    | succ g =>
      have hji : (j : Int) < (fs.length : Int) := by omega
      have hjn : j < fs.length := by omega
      obtain ⟨b, o, sv, rfl, hlt, hc, hsv⟩ := fva_at (HS.out.next HB.out) hjn
      have hmem : fs[j] ∈ fs := List.getElem_mem hjn
      have htk : fs.take (j + 1) = fs.take j ++ [fs[j]] := by rw [List.take_add_one, List.getElem?_eq_getElem hjn]; rfl
      obtain ⟨f, hf⟩ : ∃ f, fs[j] = f := ⟨_, rfl⟩
      rw [hf] at hc hsv hmem htk
      have HTK := Lib.hid htk
      have HMEM := Lib.hid hmem
      obtain ⟨As, cs, rfl, hss, hlc, hcm⟩ := hsv
      have HC := Lib.hid (HP.out f hmem As cs wr hss hlc hcm HB.out)
      obtain ⟨v, hv⟩ : ∃ v, p f = v := ⟨_, rfl⟩
      rw [hv] at HC
      have HV := Lib.hid hv
      have c0 := hc.1
      have c1 := hc.2.1
      have c2 := hc.2.2.1
      have c3 := hc.2.2.2.1
      have c4 := hc.2.2.2.2.1
      have c5 := hc.2.2.2.2.2
      clear hc hf hss hlc hcm hmem htk hv
      go_wp2_with fail
      refine HC.out.mono ?_
      rintro e w2 ⟨rfl, hb2⟩
      have HB2 := Lib.hid (HB.out.trans (hb2.mono HB.out.size))
      clear hb2 HC c0 c1 c2 c3 c4 c5
      cases v with
      | true =>
        have HF : Hid (fs.any p = true) := List.any_eq_true.2 ⟨f, HMEM.out, HV.out⟩
        go_wp2
        go_ret
        exact ⟨.inl ⟨HF.out, j, rfl⟩, HB2.out⟩
      | false =>
        go_wp2
        go_roundg g
        case measure => omega
        case rel => exact ⟨j + 1, by go_num, by omega, (by
          show ∀ _, _
          rw [HTK.out]
          intro q hq
          rcases List.mem_append.1 hq with h | h
          · exact HN.out q h
          · rw [List.mem_singleton.1 h]; exact HV.out), HB2.out⟩
set_option maxRecDepth 100000 in
set_option maxHeartbeats 1000000 in
theorem someF5_any (p : FactP → Bool) (A0 : Option Addr) (c0 : Nat) (fs : List FactP) (w : World) (hs : FVa w (.slice A0 fs.length c0) fs) (hl : fs.length ≤ 1000000)
    (hp : ∀ f ∈ fs, ∀ (A : Option Addr) (c : Nat) (W : World), SlS W W.heap.size A f.l → f.l.length ≤ c → c ≤ maxLen → Below w.heap.size w W → Calls Try.prog 38 #[.agg #[.int .i64 f.e, .int .i64 f.a, .int .i64 f.k, .int .i64 f.m, .string f.s, .slice A f.l.length c]] W fun e w' => e = .returned (.bool (p f)) ∧ Below W.heap.size W w') :
    Calls Try.prog 21 #[.slice A0 fs.length c0, .func (.func 38) #[] #[]] w fun e w' => e = .returned (.bool (fs.any p)) ∧ Below w.heap.size w w' := by
  have HC := Lib.hid (idxF5_any  p A0 c0 fs w hs hl hp)
  clear hs hp
  go_enter Try.func21, Try.ntmps21
  go_wp2_with fail
  refine HC.out.mono ?_
  rintro e w1 ⟨⟨hv, j, rfl⟩ | ⟨hv, rfl⟩, hb⟩
  · have HV := Lib.hid hv
    have HB := Lib.hid hb
    have h0 : (0 : Int) ≤ (j : Int) := by omega
    clear hv hb HC
    go_wp2
    go_ret
    exact ⟨by rw [HV.out]; rfl, HB.out⟩
  · have HV := Lib.hid hv
    have HB := Lib.hid hb
    clear hv hb HC
    go_wp2
    go_ret
    exact ⟨by rw [HV.out]; rfl, HB.out⟩
set_option maxRecDepth 100000 in
set_option maxHeartbeats 2000000 in
theorem idxA6_any (A0 : Option Addr) (c0 : Nat) (l : List Att) (w : World) (hs : SlA w w.heap.size A0 l) (hl : l.length ≤ 1000000) :
    Calls Try.prog 47 #[.slice A0 l.length c0, .func (.func 42) #[] #[]] w fun e w' => ((l.any a6B = true ∧ ∃ j : Nat, e = .returned (.int .i64 j)) ∨ (l.any a6B = false ∧ e = .returned (.int .i64 (-1)))) ∧ Below w.heap.size w w' := by
  have HS := Lib.hid hs
  clear hs
  go_enter Try.func47, Try.ntmps47
  go_wp2
  go_loopg [8] l.length (fun g i wr => ∃ j : Nat, i = .int .i64 j ∧ j + g = l.length ∧ Hid (∀ f ∈ l.take j, a6B f = false) ∧ Hid (Below w.heap.size w wr))
  case atStart => exact ⟨0, rfl, by omega, (fun f h => by cases h), Below.refl _ _⟩
  case round =>
    obtain ⟨j, rfl, hj, HN, HB⟩ := hrel
    cases gk with
    | zero =>
      have hji : ¬ (j : Int) < (l.length : Int) := by omega
      have HF : Hid (l.any a6B = false) := by
        show _ = _
        rw [List.any_eq_false]
        intro f hf
        have := HN.out
        rw [List.take_of_length_le (by omega)] at this
        simp [this f hf]
      go_wp2
      go_ret
      exact ⟨.inr ⟨fun x hx => by simpa using List.any_eq_false.1 HF.out x hx, rfl⟩, HB.out⟩
    | succ g =>
      have hji : (j : Int) < (l.length : Int) := by omega
      have hjn : j < l.length := by omega
      obtain ⟨b, o, rfl, hlt, hp⟩ := (HS.out.next HB.out (Nat.le_refl _)).at_ hjn
      have hmem : l[j] ∈ l := List.getElem_mem hjn
      have htk : l.take (j + 1) = l.take j ++ [l[j]] := by rw [List.take_add_one, List.getElem?_eq_getElem hjn]; rfl
      obtain ⟨f, hf⟩ : ∃ f, l[j] = f := ⟨_, rfl⟩
      rw [hf] at hp hmem htk
      have HTK := Lib.hid htk
      have HMEM := Lib.hid hmem
      have HC := Lib.hid (ask6_any f wr)
      obtain ⟨v, hv⟩ : ∃ v, a6B f = v := ⟨_, rfl⟩
      rw [hv] at HC
      have HV := Lib.hid hv
      have c0 := hp.c0
      have c1 := hp.c1
      have c2 := hp.c2
      have c3 := hp.c3
      have c4 := hp.c4
      have c5 := hp.c5
      have c6 := hp.c6
      clear hp hf hmem htk hv
      go_wp2_with fail
      refine HC.out.mono ?_
      rintro e w2 ⟨rfl, hb2⟩
      have HB2 := Lib.hid (HB.out.trans (hb2.mono HB.out.size))
      clear hb2 HC c0 c1 c2 c3 c4 c5 c6
      cases v with
      | true =>
        have HF : Hid (l.any a6B = true) := List.any_eq_true.2 ⟨f, HMEM.out, HV.out⟩
        go_wp2
        go_ret
        exact ⟨.inl ⟨HF.out, j, rfl⟩, HB2.out⟩
      | false =>
        go_wp2
        go_roundg g
        case measure => omega
        case rel => exact ⟨j + 1, by go_num, by omega, (by
          show ∀ _, _
          rw [HTK.out]
          intro q hq
          rcases List.mem_append.1 hq with h | h
          · exact HN.out q h
          · rw [List.mem_singleton.1 h]; exact HV.out), HB2.out⟩
set_option maxRecDepth 100000 in
set_option maxHeartbeats 1000000 in
theorem someA6_any (A0 : Option Addr) (c0 : Nat) (l : List Att) (w : World) (hs : SlA w w.heap.size A0 l) (hl : l.length ≤ 1000000) :
    Calls Try.prog 41 #[.slice A0 l.length c0, .func (.func 42) #[] #[]] w fun e w' => e = .returned (.bool (l.any a6B)) ∧ Below w.heap.size w w' := by
  have HC := Lib.hid (idxA6_any A0 c0 l w hs hl)
  clear hs
  go_enter Try.func41, Try.ntmps41
  go_wp2_with fail
  refine HC.out.mono ?_
  rintro e w1 ⟨⟨hv, j, rfl⟩ | ⟨hv, rfl⟩, hb⟩
  · have HV := Lib.hid hv
    have HB := Lib.hid hb
    have h0 : (0 : Int) ≤ (j : Int) := by omega
    clear hv hb HC
    go_wp2
    go_ret
    exact ⟨by rw [HV.out]; rfl, HB.out⟩
  · have HV := Lib.hid hv
    have HB := Lib.hid hb
    clear hv hb HC
    go_wp2
    go_ret
    exact ⟨by rw [HV.out]; rfl, HB.out⟩
end Go.Proofs.Ytlmihlepaoifiaa
