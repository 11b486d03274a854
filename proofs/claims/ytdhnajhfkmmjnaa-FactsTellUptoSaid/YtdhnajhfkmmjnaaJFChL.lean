/-
  CONTRACT: Changes.
-/
import Derived.Test.YtdhnajhfkmmjnaaJFTgL
namespace Go.Proofs.Ytdhnajhfkmmjnaa
open Go.RowKit Go.Shelf

/-- What Changes answers. -/
def ChgEnd (w : World) (old now : List FactP) (t : Int) (e : Ending) (w' : World) : Prop :=
  (∃ v ec, e = .returned (.tuple #[v, .int .i64 ec]) ∧ ((mayFs old = true ∧ mayFs now = true ∧ txB t = true ∧ ec = 0 ∧ OwnD w' w.heap.size v (chgL old now t)) ∨ ((mayFs old && mayFs now) = false ∧ ec = 60 ∧ v = .slice none 0 0) ∨ (mayFs old = true ∧ mayFs now = true ∧ txB t = false ∧ ec = 2 ∧ v = .slice none 0 0))) ∧ Below w.heap.size w w'
set_option maxRecDepth 100000 in
set_option maxHeartbeats 4000000 in
theorem changes_any (t : Int) (A B : Option Addr) (c d : Nat) (old now : List FactP) (w : World) (ha : FVa w (.slice A old.length c) old) (hb : FVa w (.slice B now.length d) now) (hla : old.length ≤ 100000) (hlb : now.length ≤ 100000)
    (hza : ∀ f ∈ old, f.s.size ≤ maxLen ∧ f.l.length ≤ 100000) (hzb : ∀ f ∈ now, f.s.size ≤ maxLen ∧ f.l.length ≤ 100000) (hka : ∀ f ∈ old, ∀ q ∈ f.l, SpOk q) (hkb : ∀ f ∈ now, ∀ q ∈ f.l, SpOk q) (hs : sumS old + sumS now ≤ 5000) :
    Calls Try.prog 13 #[.slice A old.length c, .slice B now.length d, .int .i64 t] w (ChgEnd w old now t) := by
  obtain ⟨w0, hw0⟩ : ∃ w0, w.alloc (.cells #[.int .i64 t] 2) = w0 := ⟨_, rfl⟩
  have hb0 : Below w.heap.size w w0 := by rw [← hw0]; exact (Below.refl _ w).alloc (Nat.le_refl _) _
  have HT0 : Hid (Boxed w0 w.heap.size 2 (.int .i64 t)) := by rw [← hw0]; exact Boxed.new w _ _
  have HB0 := Lib.hid hb0
  have HF := Lib.hid (And.intro ha hb)
  have HC1 := Lib.hid (mayFs_any A c old w0 (ha.next hb0) hla hza)
  have HC2 := Lib.hid (fun X (h : Below w.heap.size w X) => mayFs_any B d now X (hb.next h) hlb hzb)
  have HKA := Lib.hid (And.intro hka hkb)
  clear ha hb hb0 hza hzb hka hkb
  obtain ⟨m1, hm1⟩ : ∃ m, mayFs old = m := ⟨_, rfl⟩
  obtain ⟨m2, hm2⟩ : ∃ m, mayFs now = m := ⟨_, rfl⟩
  rw [hm1] at HC1
  rw [hm2] at HC2
  have HM1 := Lib.hid hm1
  have HM2 := Lib.hid hm2
  clear hm1 hm2
  go_enter Try.func13, Try.ntmps13
  go_upto_region 1 with (fail)
  try rw [hw0]
  clear hw0
  go_wp2_with fail
  refine HC1.out.mono ?_
  rintro en w1 ⟨rfl, hb1⟩
  have HB1 := Lib.hid (HB0.out.trans (hb1.mono HB0.out.size))
  have HT1 : Hid (Boxed w1 w.heap.size 2 (.int .i64 t)) := (hb1.block _ HT0.out.lt).trans HT0.out
  clear hb1 HC1
  cases m1
  · go_wp2
    go_ret2
    exact ⟨⟨_, _, rfl, .inr (.inl ⟨by rw [HM1.out]; rfl, rfl, rfl⟩)⟩, HB1.out⟩
  have HC3 := Lib.hid (HC2.out w1 HB1.out)
  go_wp2_with fail
  refine HC3.out.mono ?_
  rintro en w2 ⟨rfl, hb2⟩
  have HB2 := Lib.hid (HB1.out.trans (hb2.mono HB1.out.size))
  have HT2 : Hid (Boxed w2 w.heap.size 2 (.int .i64 t)) := (hb2.block _ HT1.out.lt).trans HT1.out
  clear hb2 HC2 HC3
  cases m2
  · go_wp2
    go_ret2
    exact ⟨⟨_, _, rfl, .inr (.inl ⟨by rw [HM2.out]; simp, rfl, rfl⟩)⟩, HB2.out⟩
  have t0 := HT2.out.cell
  by_cases ht1 : t < 1
  · have e1 : decide (t < 1) = true := decide_eq_true ht1
    have HN : Hid (txB t = false) := decide_eq_false (by omega)
    go_wp2
    go_ret2
    exact ⟨⟨_, _, rfl, .inr (.inr ⟨HM1.out, HM2.out, HN.out, rfl, rfl⟩)⟩, HB2.out⟩
  have e1 : decide (t < 1) = false := decide_eq_false ht1
  by_cases ht2 : 1099511627776 < t
  · have e2 : decide (1099511627776 < t) = true := decide_eq_true ht2
    have HN : Hid (txB t = false) := decide_eq_false (by omega)
    go_wp2
    go_ret2
    exact ⟨⟨_, _, rfl, .inr (.inr ⟨HM1.out, HM2.out, HN.out, rfl, rfl⟩)⟩, HB2.out⟩
  have e2 : decide (1099511627776 < t) = false := decide_eq_false ht2
  have HTX : Hid (txB t = true) := decide_eq_true (by omega)
  obtain ⟨w3, hw3⟩ : ∃ w3, (w2.alloc (.cells #[.slice none 0 0] 31)).alloc (.cells #[.func (.func 43) #[] #[.pointer (some ⟨w2.heap.size, 0, none⟩), .pointer (some ⟨w.heap.size, 0, none⟩)]] 83) = w3 := ⟨_, rfl⟩
  have hb3 : Below w2.heap.size w2 w3 := by rw [← hw3]; exact ((Below.refl _ w2).alloc (Nat.le_refl _) _).alloc (by simp) _
  have hz2 := HB2.out.size
  have HW3 : Hid (ChgW w t w2.heap.size w.heap.size (w2.heap.size + 1) [] w3) := by
    refine ⟨⟨.slice none 0 0, ?_, World.ownsRow_nil _ _ _ _⟩, (hb3.block _ HT2.out.lt).trans HT2.out, ?_, HB2.out.trans (hb3.mono HB2.out.size)⟩
    · rw [← hw3]; exact (Boxed.new w2 31 (.slice none 0 0)).alloc _
    · rw [← hw3]
      have := Boxed.new (w2.alloc (.cells #[.slice none 0 0] 31)) 83 (sayV w2.heap.size w.heap.size)
      rwa [World.size_alloc] at this
  have hsz3 : w3.heap.size = w2.heap.size + 2 := by rw [← hw3]; simp
  have hlt0 := HT2.out.lt
  have good : ∀ l : List FactP, mayFs l = true → (∀ f ∈ l, ∀ q ∈ f.l, SpOk q) → GoodF l := fun l h hk f hf => by
    have h1 := (of_decide_eq_true h).1 f hf
    unfold mayF at h1
    simp only [Bool.and_eq_true] at h1
    exact ⟨of_decide_eq_true h1.2, hk f hf⟩
  have HTG := Lib.hid (together_any t w2.heap.size w.heap.size (w2.heap.size + 1) A B c d old now [] w w3 HF.out.1 HF.out.2 HW3.out rfl hz2 (by omega) (by omega) (by omega) (by omega) (by omega) (good old HM1.out HKA.out.1) (good now HM2.out HKA.out.2) hs)
  clear hb3 good hsz3 ht1 ht2
  go_upto_region 7 with (fail)
  try rw [hw3]
  clear hw3
  go_wp2_with fail
  refine HTG.out.mono ?_
  rintro en w4 ⟨rfl, hcw⟩
  obtain ⟨v, hv1, hv2⟩ := hcw.row
  have z0 := hv1.cell
  have HV := Lib.hid hv2
  have HB4 := Lib.hid hcw.below
  clear hcw hv1 HTG
  obtain ⟨A9, c9, rfl, _⟩ := hv2.form
  clear hv2
  go_wp2
  go_ret2
  exact ⟨⟨_, _, rfl, .inl ⟨HM1.out, HM2.out, HTX.out, rfl, HV.out⟩⟩, HB4.out⟩
end Go.Proofs.Ytdhnajhfkmmjnaa
