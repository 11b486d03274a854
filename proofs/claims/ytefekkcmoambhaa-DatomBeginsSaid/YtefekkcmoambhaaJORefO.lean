/-
  CONTRACT: one (the document's reader of a value).
-/
import Derived.Test.YtefekkcmoambhaaJORdVal
import Derived.Test.YtefekkcmoambhaaJORefV
namespace Go.Proofs.Ytefekkcmoambhaa
open Go.RowKit Go.Shelf

theorem results_cell_tmp1 {fn : Func} {p q : Tmp} {ty : TypeId} (h : fn.results = #[.cell p ty, .tmp q]) (tmps : Array Value) (P : Program) (w : World) :
    (results fn tmps).run P w =
      ((asAddr (tmps.getD p undef)).run P w).andThen fun a w₁ => ((loadVar ty a).run P w₁).andThen fun v w₂ => .ok (.tuple #[v, tmps.getD q undef]) w₂ := by
  simp only [results, h]
  simp [Sem.run_bind, Result.andThen]
/-- What one answers. -/
def OneRd (W : World) (l : List UInt8) (e : Ending) (w' : World) : Prop :=
  ((∃ k n s t, oneR l = some ((k, n, s), t) ∧ e = .returned (.tuple #[valV k n ⟨s.toArray⟩, .int .i64 ((l.length - t.length : Nat) : Int)])) ∨
  (oneR l = none ∧ ∃ (x y : Int) (z : ByteArray), e = .returned (.tuple #[.agg #[.int .i64 x, .int .i64 y, .string z], .int .i64 0]))) ∧ Below W.heap.size W w'
theorem oneR_one (c : UInt8) : oneR [c] = none := by
  simp only [oneR, txtR]
  split
  · rfl
  · split
    · simp
    · split <;> rfl

set_option maxRecDepth 100000 in
set_option maxHeartbeats 2000000 in
theorem refOne_2 (a : Addr) (cp : Nat) (c d : UInt8) (r : List UInt8) (W : World) (B : Nat) (hBW : B ≤ W.heap.size) (hs : SlB W B (some a) (c :: d :: r)) (_hlc : r.length + 1 + 1 ≤ cp) (_hc : cp ≤ maxLen) (_hl : r.length ≤ 5000) (hk : c = 2) :
    Calls Try.prog 114 #[.slice (some a) (r.length + 1 + 1) cp] W (OneRd W (c :: d :: r)) := by
  have hck : (c.toNat : Int) = 2 := by rw [hk]; rfl
  have hal : a.block < W.heap.size := by
    obtain ⟨a', e, h, _⟩ := hs (by simp)
    injection e with e; subst e; omega
  have HCL : Hid (W.cell? a = some (.int .u8 c.toNat)) := by
    obtain ⟨a', e, _, h⟩ := hs (by simp)
    injection e with e; subst e
    have := h 0 c rfl
    rwa [add_zero'] at this
  have HDL : Hid (W.cell? (a.add 1) = some (.int .u8 d.toNat)) := by
    obtain ⟨a', e, _, h⟩ := hs (by simp)
    injection e with e; subst e
    exact h 1 d rfl
  have HS := Lib.hid hs
  clear hs
  obtain ⟨w1, hw1⟩ : ∃ w1, W.alloc (.cells #[.int .i64 0, .int .i64 0, .string ⟨#[]⟩] 24) = w1 := ⟨_, rfl⟩
  have HB1 : Hid (Below W.heap.size W w1) := by rw [← hw1]; exact (Below.refl _ _).alloc (Nat.le_refl _) _
  have HR1 : Hid (ValAt w1 W.heap.size 0 0 ⟨#[]⟩) := by rw [← hw1]; exact valAt_new W 0 0 ⟨#[]⟩
  have HNE : Hid (W.heap.size ≠ w1.heap.size) := by show _ ≠ _; rw [← hw1]; simp
  have HW1 := Lib.hid hw1
  clear hw1
  have hwk : IntKind.i64.wrap 2 = 2 := by decide
  obtain ⟨w2, hw2⟩ : ∃ w2, w1.alloc (.cells #[.int .i64 2, .int .i64 0, .string ⟨#[]⟩] 24) = w2 := ⟨_, rfl⟩
  have HV2 : Hid (ValAt w2 w1.heap.size 2 0 ⟨#[]⟩) := by rw [← hw2]; exact valAt_new w1 2 0 ⟨#[]⟩
  have HB2 : Hid (Below w1.heap.size w1 w2) := by rw [← hw2]; exact (Below.refl _ _).alloc (Nat.le_refl _) _
  have HB12 : Hid (Below W.heap.size W w2) := HB1.out.trans (HB2.out.mono HB1.out.size)
  have HW2 := Lib.hid hw2
  clear hw2
  have hR2 : Hid (ValAt w2 W.heap.size 0 0 ⟨#[]⟩) := HR1.out.next HB2.out HR1.out.lt
  go_enter Try.func114, Try.ntmps114
  go_upto_region 1 with (fail)
  rw [HW1.out]
  have q1 := (HB1.out.cell (p := a) hal).trans HCL.out
  go_upto_region 4 with (fail)
  rw [HW2.out]
  clear q1
  have k0 := HV2.out.c0
  have k1 := HV2.out.c1
  have k2 := HV2.out.c2
  have hsx : (⟨#[]⟩ : ByteArray).size ≤ maxLen := by decide
  have hdl := (HB12.out.cell (p := a.add 1) (by rw [add_block]; exact hal)).trans HDL.out
  rw [add_succ'] at hdl
  have f1 := HV2.out.fz 1
  have HWD : Hid (wrap64 (d.toNat : Int) = (d.toNat : Int)) := by
    show _ = _
    have := d.toNat_lt
    simp only [wrap64]; omega
  have hwd := HWD.out
  obtain ⟨w4, hw4⟩ : ∃ w4, w2.setCell ⟨w1.heap.size, 1, none⟩ (.int .i64 (d.toNat : Int)) = w4 := ⟨_, rfl⟩
  have HV4 : Hid (ValAt w4 w1.heap.size 2 (d.toNat : Int) ⟨#[]⟩) := by rw [← hw4]; exact HV2.out.set1 _
  have HR4 : Hid (ValAt w4 W.heap.size 0 0 ⟨#[]⟩) := by rw [← hw4]; exact hR2.out.far (j := 1) HNE.out _
  have HB4 : Hid (Below W.heap.size W w4) := by rw [← hw4]; exact HB12.out.setCell (p := ⟨w1.heap.size, 1, none⟩) HB1.out.size _
  have HW4 := Lib.hid hw4
  clear hw4
  go_upto_region 32 with (fail)
  rw [HW4.out]
  clear k0 k1 k2 hdl f1 hwd
  cases hm : mayB 2 (d.toNat : Int) ⟨#[]⟩
  · have HM := Lib.hid hm
    clear hm
    have g0 := HV4.out.c0
    have g1 := HV4.out.c1
    have g2 := HV4.out.c2
    go_wp2_with fail
    refine (refMay_is _ hsx HM.out).mono ?_
    rintro e w5 ⟨rfl, hb5⟩
    have hV5 := HV4.out.next hb5 HV4.out.lt
    have hR5 := HR4.out.next hb5 HR4.out.lt
    have HB5 := Lib.hid (HB4.out.trans (hb5.mono HB4.out.size))
    clear g0 g1 g2 hb5
    have v0 := hV5.c0
    have v1 := hV5.c1
    have v2 := hV5.c2
    have g0 := hR5.c0
    have g1 := hR5.c1
    have g2 := hR5.c2
    have z0 := hR5.fz 0
    have z1 := hR5.fz 1
    have z2 := hR5.fz 2
    have HF := Lib.hid (((hR5.set0 0).set1 0).set2 ⟨#[]⟩)
    clear hV5 hR5
    go_wp2
    refine bodyPost_ret (v := .tuple #[valV 0 0 ⟨#[]⟩, .int .i64 0]) ?_ rfl ?_
    · rw [results_cell_tmp1 rfl]
      have h0 := HF.out.c0
      have h1 := HF.out.c1
      have h2 := HF.out.c2
      unfold valV
      go_simp
    · exact ⟨.inr ⟨(by first | (rw [hk]; exact oneR_two_no HM.out) | exact oneR_two_no HM.out), _, _, _, rfl⟩, ((HB5.out.setCell (p := ⟨W.heap.size, 0, none⟩) (Nat.le_refl _) _).setCell (p := ⟨W.heap.size, 1, none⟩) (Nat.le_refl _) _).setCell (p := ⟨W.heap.size, 2, none⟩) (Nat.le_refl _) _⟩
  · have HM := Lib.hid hm
    clear hm
    have g0 := HV4.out.c0
    have g1 := HV4.out.c1
    have g2 := HV4.out.c2
    go_wp2_with fail
    refine (refMay_is _ hsx HM.out).mono ?_
    rintro e w5 ⟨rfl, hb5⟩
    have hV5 := HV4.out.next hb5 HV4.out.lt
    have hR5 := HR4.out.next hb5 HR4.out.lt
    have HB5 := Lib.hid (HB4.out.trans (hb5.mono HB4.out.size))
    clear g0 g1 g2 hb5
    have v0 := hV5.c0
    have v1 := hV5.c1
    have v2 := hV5.c2
    have g0 := hR5.c0
    have g1 := hR5.c1
    have g2 := hR5.c2
    have z0 := hR5.fz 0
    have z1 := hR5.fz 1
    have z2 := hR5.fz 2
    have HF := Lib.hid (((hR5.set0 2).set1 (d.toNat : Int)).set2 ⟨#[]⟩)
    clear hV5 hR5
    go_wp2
    refine bodyPost_ret (v := .tuple #[valV 2 (d.toNat : Int) ⟨#[]⟩, .int .i64 2]) ?_ rfl ?_
    · rw [results_cell_tmp1 rfl]
      have h0 := HF.out.c0
      have h1 := HF.out.c1
      have h2 := HF.out.c2
      unfold valV
      go_simp
    · exact ⟨(.inl ⟨_, _, [], r, (by first | (rw [hk]; exact oneR_two_yes HM.out) | exact oneR_two_yes HM.out), (by rw [show (c :: d :: r).length - r.length = 2 by simp only [List.length_cons]; omega]; rfl)⟩), ((HB5.out.setCell (p := ⟨W.heap.size, 0, none⟩) (Nat.le_refl _) _).setCell (p := ⟨W.heap.size, 1, none⟩) (Nat.le_refl _) _).setCell (p := ⟨W.heap.size, 2, none⟩) (Nat.le_refl _) _⟩

set_option maxRecDepth 100000 in
set_option maxHeartbeats 2000000 in
theorem refOne_1 (a : Addr) (cp : Nat) (c d : UInt8) (r : List UInt8) (W : World) (B : Nat) (hBW : B ≤ W.heap.size) (hs : SlB W B (some a) (c :: d :: r)) (hlc : r.length + 1 + 1 ≤ cp) (_hc : cp ≤ maxLen) (_hl : r.length ≤ 5000) (hk : c = 1) :
    Calls Try.prog 114 #[.slice (some a) (r.length + 1 + 1) cp] W (OneRd W (c :: d :: r)) := by
  have hck : (c.toNat : Int) = 1 := by rw [hk]; rfl
  have hal : a.block < W.heap.size := by
    obtain ⟨a', e, h, _⟩ := hs (by simp)
    injection e with e; subst e; omega
  have HCL : Hid (W.cell? a = some (.int .u8 c.toNat)) := by
    obtain ⟨a', e, _, h⟩ := hs (by simp)
    injection e with e; subst e
    have := h 0 c rfl
    rwa [add_zero'] at this
  have HDL : Hid (W.cell? (a.add 1) = some (.int .u8 d.toNat)) := by
    obtain ⟨a', e, _, h⟩ := hs (by simp)
    injection e with e; subst e
    exact h 1 d rfl
  have HS := Lib.hid hs
  clear hs
  obtain ⟨w1, hw1⟩ : ∃ w1, W.alloc (.cells #[.int .i64 0, .int .i64 0, .string ⟨#[]⟩] 24) = w1 := ⟨_, rfl⟩
  have HB1 : Hid (Below W.heap.size W w1) := by rw [← hw1]; exact (Below.refl _ _).alloc (Nat.le_refl _) _
  have HR1 : Hid (ValAt w1 W.heap.size 0 0 ⟨#[]⟩) := by rw [← hw1]; exact valAt_new W 0 0 ⟨#[]⟩
  have HNE : Hid (W.heap.size ≠ w1.heap.size) := by show _ ≠ _; rw [← hw1]; simp
  have HW1 := Lib.hid hw1
  clear hw1
  have hwk : IntKind.i64.wrap 1 = 1 := by decide
  obtain ⟨w2, hw2⟩ : ∃ w2, w1.alloc (.cells #[.int .i64 1, .int .i64 0, .string ⟨#[]⟩] 24) = w2 := ⟨_, rfl⟩
  have HV2 : Hid (ValAt w2 w1.heap.size 1 0 ⟨#[]⟩) := by rw [← hw2]; exact valAt_new w1 1 0 ⟨#[]⟩
  have HB2 : Hid (Below w1.heap.size w1 w2) := by rw [← hw2]; exact (Below.refl _ _).alloc (Nat.le_refl _) _
  have HB12 : Hid (Below W.heap.size W w2) := HB1.out.trans (HB2.out.mono HB1.out.size)
  have HW2 := Lib.hid hw2
  clear hw2
  have hR2 : Hid (ValAt w2 W.heap.size 0 0 ⟨#[]⟩) := HR1.out.next HB2.out HR1.out.lt
  go_enter Try.func114, Try.ntmps114
  go_upto_region 1 with (fail)
  rw [HW1.out]
  have q1 := (HB1.out.cell (p := a) hal).trans HCL.out
  go_upto_region 4 with (fail)
  rw [HW2.out]
  clear q1
  have k0 := HV2.out.c0
  have k1 := HV2.out.c1
  have k2 := HV2.out.c2
  by_cases h9 : (r.length : Int) + 1 + 1 < 9
  · have h9n : (d :: r).length < 8 := by simp only [List.length_cons]; omega
    have g0 := hR2.out.c0
    have g1 := hR2.out.c1
    have g2 := hR2.out.c2
    have z0 := hR2.out.fz 0
    have z1 := hR2.out.fz 1
    have z2 := hR2.out.fz 2
    have HF := Lib.hid (((hR2.out.set0 0).set1 0).set2 ⟨#[]⟩)
    go_wp2
    refine bodyPost_ret (v := .tuple #[valV 0 0 ⟨#[]⟩, .int .i64 0]) ?_ rfl ?_
    · rw [results_cell_tmp1 rfl]
      have h0 := HF.out.c0
      have h1 := HF.out.c1
      have h2 := HF.out.c2
      unfold valV
      go_simp
    · exact ⟨.inr ⟨(by first | (rw [hk]; exact oneR_num_none (.inl rfl) h9n) | exact oneR_num_none (.inl rfl) h9n), _, _, _, rfl⟩, ((HB12.out.setCell (p := ⟨W.heap.size, 0, none⟩) (Nat.le_refl _) _).setCell (p := ⟨W.heap.size, 1, none⟩) (Nat.le_refl _) _).setCell (p := ⟨W.heap.size, 2, none⟩) (Nat.le_refl _) _⟩
  · have h9n : 8 ≤ (d :: r).length := by simp only [List.length_cons]; omega
    have hsx : (⟨#[]⟩ : ByteArray).size ≤ maxLen := by decide
    have hcp1 : ¬ cp = 1 := by omega
    have hS2 : SlB w2 B (some ⟨a.block, a.off + 1, none⟩) (d :: r) := by
      have := HS.out.cut (show (c :: d :: r).length ≤ cp from hlc) 1
      rw [if_neg hcp1] at this
      exact this.next HB12.out hBW
    have HC := Lib.hid (refNum_any (some ⟨a.block, a.off + 1, none⟩) (cp - 1) (d :: r) w2 B hS2 (by simp only [List.length_cons]; omega) h9n)
    clear hS2
    have f1 := HV2.out.fz 1
    go_wp2_with fail
    refine HC.out.mono ?_
    rintro e w3 ⟨rfl, rfl⟩
    obtain ⟨w4, hw4⟩ : ∃ w4, w3.setCell ⟨w1.heap.size, 1, none⟩ (.int .i64 (numR (d :: r))) = w4 := ⟨_, rfl⟩
    have HV4 : Hid (ValAt w4 w1.heap.size 1 (numR (d :: r)) ⟨#[]⟩) := by rw [← hw4]; exact HV2.out.set1 _
    have HR4 : Hid (ValAt w4 W.heap.size 0 0 ⟨#[]⟩) := by rw [← hw4]; exact hR2.out.far (j := 1) HNE.out _
    have HB4 : Hid (Below W.heap.size W w4) := by rw [← hw4]; exact HB12.out.setCell (p := ⟨w1.heap.size, 1, none⟩) HB1.out.size _
    have HW4 := Lib.hid hw4
    clear hw4
    go_upto_region 32 with (fail)
    rw [HW4.out]
    clear k0 k1 k2 f1
    cases hm : mayB 1 (numR (d :: r)) ⟨#[]⟩
    · have HM := Lib.hid hm
      clear hm
      have g0 := HV4.out.c0
      have g1 := HV4.out.c1
      have g2 := HV4.out.c2
      go_wp2_with fail
      refine (refMay_is _ hsx HM.out).mono ?_
      rintro e w5 ⟨rfl, hb5⟩
      have hV5 := HV4.out.next hb5 HV4.out.lt
      have hR5 := HR4.out.next hb5 HR4.out.lt
      have HB5 := Lib.hid (HB4.out.trans (hb5.mono HB4.out.size))
      clear g0 g1 g2 hb5
      have v0 := hV5.c0
      have v1 := hV5.c1
      have v2 := hV5.c2
      have g0 := hR5.c0
      have g1 := hR5.c1
      have g2 := hR5.c2
      have z0 := hR5.fz 0
      have z1 := hR5.fz 1
      have z2 := hR5.fz 2
      have HF := Lib.hid (((hR5.set0 0).set1 0).set2 ⟨#[]⟩)
      clear hV5 hR5
      go_wp2
      refine bodyPost_ret (v := .tuple #[valV 0 0 ⟨#[]⟩, .int .i64 0]) ?_ rfl ?_
      · rw [results_cell_tmp1 rfl]
        have h0 := HF.out.c0
        have h1 := HF.out.c1
        have h2 := HF.out.c2
        unfold valV
        go_simp
      · exact ⟨.inr ⟨(by first | (rw [hk]; exact oneR_num_no (.inl rfl) HM.out) | exact oneR_num_no (.inl rfl) HM.out), _, _, _, rfl⟩, ((HB5.out.setCell (p := ⟨W.heap.size, 0, none⟩) (Nat.le_refl _) _).setCell (p := ⟨W.heap.size, 1, none⟩) (Nat.le_refl _) _).setCell (p := ⟨W.heap.size, 2, none⟩) (Nat.le_refl _) _⟩
    · have HM := Lib.hid hm
      clear hm
      have g0 := HV4.out.c0
      have g1 := HV4.out.c1
      have g2 := HV4.out.c2
      go_wp2_with fail
      refine (refMay_is _ hsx HM.out).mono ?_
      rintro e w5 ⟨rfl, hb5⟩
      have hV5 := HV4.out.next hb5 HV4.out.lt
      have hR5 := HR4.out.next hb5 HR4.out.lt
      have HB5 := Lib.hid (HB4.out.trans (hb5.mono HB4.out.size))
      clear g0 g1 g2 hb5
      have v0 := hV5.c0
      have v1 := hV5.c1
      have v2 := hV5.c2
      have g0 := hR5.c0
      have g1 := hR5.c1
      have g2 := hR5.c2
      have z0 := hR5.fz 0
      have z1 := hR5.fz 1
      have z2 := hR5.fz 2
      have HF := Lib.hid (((hR5.set0 1).set1 (numR (d :: r))).set2 ⟨#[]⟩)
      clear hV5 hR5
      go_wp2
      refine bodyPost_ret (v := .tuple #[valV 1 (numR (d :: r)) ⟨#[]⟩, .int .i64 9]) ?_ rfl ?_
      · rw [results_cell_tmp1 rfl]
        have h0 := HF.out.c0
        have h1 := HF.out.c1
        have h2 := HF.out.c2
        unfold valV
        go_simp
      · exact ⟨(.inl ⟨_, _, [], _, (by first | (rw [hk]; exact oneR_num_yes (.inl rfl) h9n HM.out) | exact oneR_num_yes (.inl rfl) h9n HM.out), (by rw [show (c :: d :: r).length - ((d :: r).drop 8).length = 9 by simp only [List.length_cons, List.length_drop] at h9n ⊢; omega]; rfl)⟩), ((HB5.out.setCell (p := ⟨W.heap.size, 0, none⟩) (Nat.le_refl _) _).setCell (p := ⟨W.heap.size, 1, none⟩) (Nat.le_refl _) _).setCell (p := ⟨W.heap.size, 2, none⟩) (Nat.le_refl _) _⟩

set_option maxRecDepth 100000 in
set_option maxHeartbeats 2000000 in
theorem refOne_3 (a : Addr) (cp : Nat) (c d : UInt8) (r : List UInt8) (W : World) (B : Nat) (hBW : B ≤ W.heap.size) (hs : SlB W B (some a) (c :: d :: r)) (_hlc : r.length + 1 + 1 ≤ cp) (_hc : cp ≤ maxLen) (hl : r.length ≤ 5000) (hk : c = 3) :
    Calls Try.prog 114 #[.slice (some a) (r.length + 1 + 1) cp] W (OneRd W (c :: d :: r)) := by
  have hck : (c.toNat : Int) = 3 := by rw [hk]; rfl
  have hal : a.block < W.heap.size := by
    obtain ⟨a', e, h, _⟩ := hs (by simp)
    injection e with e; subst e; omega
  have HCL : Hid (W.cell? a = some (.int .u8 c.toNat)) := by
    obtain ⟨a', e, _, h⟩ := hs (by simp)
    injection e with e; subst e
    have := h 0 c rfl
    rwa [add_zero'] at this
  have HDL : Hid (W.cell? (a.add 1) = some (.int .u8 d.toNat)) := by
    obtain ⟨a', e, _, h⟩ := hs (by simp)
    injection e with e; subst e
    exact h 1 d rfl
  have HS := Lib.hid hs
  clear hs
  obtain ⟨w1, hw1⟩ : ∃ w1, W.alloc (.cells #[.int .i64 0, .int .i64 0, .string ⟨#[]⟩] 24) = w1 := ⟨_, rfl⟩
  have HB1 : Hid (Below W.heap.size W w1) := by rw [← hw1]; exact (Below.refl _ _).alloc (Nat.le_refl _) _
  have HR1 : Hid (ValAt w1 W.heap.size 0 0 ⟨#[]⟩) := by rw [← hw1]; exact valAt_new W 0 0 ⟨#[]⟩
  have HNE : Hid (W.heap.size ≠ w1.heap.size) := by show _ ≠ _; rw [← hw1]; simp
  have HW1 := Lib.hid hw1
  clear hw1
  have hwk : IntKind.i64.wrap 3 = 3 := by decide
  obtain ⟨w2, hw2⟩ : ∃ w2, w1.alloc (.cells #[.int .i64 3, .int .i64 0, .string ⟨#[]⟩] 24) = w2 := ⟨_, rfl⟩
  have HV2 : Hid (ValAt w2 w1.heap.size 3 0 ⟨#[]⟩) := by rw [← hw2]; exact valAt_new w1 3 0 ⟨#[]⟩
  have HB2 : Hid (Below w1.heap.size w1 w2) := by rw [← hw2]; exact (Below.refl _ _).alloc (Nat.le_refl _) _
  have HB12 : Hid (Below W.heap.size W w2) := HB1.out.trans (HB2.out.mono HB1.out.size)
  have HW2 := Lib.hid hw2
  clear hw2
  have hR2 : Hid (ValAt w2 W.heap.size 0 0 ⟨#[]⟩) := HR1.out.next HB2.out HR1.out.lt
  go_enter Try.func114, Try.ntmps114
  go_upto_region 1 with (fail)
  rw [HW1.out]
  have q1 := (HB1.out.cell (p := a) hal).trans HCL.out
  go_upto_region 4 with (fail)
  rw [HW2.out]
  clear q1
  have k0 := HV2.out.c0
  have k1 := HV2.out.c1
  have k2 := HV2.out.c2
  obtain ⟨i0, hi, hz0, hz1, hz2⟩ := info_parts info8
  have hmx : 50000 ≤ maxLen := by decide
  have HAW : Hid (a.block < w2.heap.size) := Nat.lt_of_lt_of_le hal HB12.out.size
  go_wp2
  go_loopg [5, 6] (r.length + 1) (fun g x y wr => ∃ (n : Nat) (L acc : List UInt8) (v : Value), x = .int .i64 n ∧ y = v ∧ Hid (L.length = g) ∧ n + L.length = r.length + 2 ∧ 1 ≤ n ∧ Hid ((c :: d :: r).drop n = L) ∧ Hid (txtR (d :: r) = onward acc (txtR L)) ∧ acc.length + L.length ≤ r.length + 1 ∧ Hid (OwnB wr w2.heap.size v acc) ∧ Hid (Below w2.heap.size w2 wr) ∧ w2.heap.size ≤ wr.heap.size)
  case atStart => exact ⟨1, d :: r, [], _, rfl, rfl, (by show _ = _; rfl), by simp only [List.length_cons]; omega, by omega, (by show _ = _; rfl), (by show _ = _; unfold onward; simp), by simp, ownB_nil _ _, Below.refl _ _, Nat.le_refl _⟩
  case round =>
    obtain ⟨n, L, acc, v, rfl, rfl, HG, hnl, hn1, HD, HT, hacc, HO, HB, hsz⟩ := hrel
    have hRr := hR2.out.next HB.out hR2.out.lt
    have hVr := HV2.out.next HB.out HV2.out.lt
    have HAR : Hid (a.block < wr.heap.size) := Nat.lt_of_lt_of_le HAW.out hsz
    have HBr : Hid (Below W.heap.size W wr) := HB12.out.trans (HB.out.mono HB12.out.size)
    clear k0 k1 k2
    match L, HG, hnl, HD, HT, hacc with
    | [], HG, hnl, HD, HT, hacc =>
      have hlt : ¬ ((n : Int) + 1 < (r.length : Int) + 1 + 1) := by simp at hnl; omega
      have HN : Hid (txtR (d :: r) = none) := by show _ = _; rw [HT.out]; rfl
      have g0 := hRr.c0
      have g1 := hRr.c1
      have g2 := hRr.c2
      have z0 := hRr.fz 0
      have z1 := hRr.fz 1
      have z2 := hRr.fz 2
      have HF := Lib.hid (((hRr.set0 0).set1 0).set2 ⟨#[]⟩)
      go_wp2
      refine bodyPost_ret (v := .tuple #[valV 0 0 ⟨#[]⟩, .int .i64 0]) ?_ rfl ?_
      · rw [results_cell_tmp1 rfl]
        have h0 := HF.out.c0
        have h1 := HF.out.c1
        have h2 := HF.out.c2
        unfold valV
        go_simp
      · exact ⟨.inr ⟨(by first | (rw [hk]; exact oneR_txt_none (.inl rfl) HN.out) | exact oneR_txt_none (.inl rfl) HN.out), _, _, _, rfl⟩, ((HBr.out.setCell (p := ⟨W.heap.size, 0, none⟩) (Nat.le_refl _) _).setCell (p := ⟨W.heap.size, 1, none⟩) (Nat.le_refl _) _).setCell (p := ⟨W.heap.size, 2, none⟩) (Nat.le_refl _) _⟩
    | [x], HG, hnl, HD, HT, hacc =>
      have hlt : ¬ ((n : Int) + 1 < (r.length : Int) + 1 + 1) := by simp at hnl; omega
      have HN : Hid (txtR (d :: r) = none) := by show _ = _; rw [HT.out]; rfl
      have g0 := hRr.c0
      have g1 := hRr.c1
      have g2 := hRr.c2
      have z0 := hRr.fz 0
      have z1 := hRr.fz 1
      have z2 := hRr.fz 2
      have HF := Lib.hid (((hRr.set0 0).set1 0).set2 ⟨#[]⟩)
      go_wp2
      refine bodyPost_ret (v := .tuple #[valV 0 0 ⟨#[]⟩, .int .i64 0]) ?_ rfl ?_
      · rw [results_cell_tmp1 rfl]
        have h0 := HF.out.c0
        have h1 := HF.out.c1
        have h2 := HF.out.c2
        unfold valV
        go_simp
      · exact ⟨.inr ⟨(by first | (rw [hk]; exact oneR_txt_none (.inl rfl) HN.out) | exact oneR_txt_none (.inl rfl) HN.out), _, _, _, rfl⟩, ((HBr.out.setCell (p := ⟨W.heap.size, 0, none⟩) (Nat.le_refl _) _).setCell (p := ⟨W.heap.size, 1, none⟩) (Nat.le_refl _) _).setCell (p := ⟨W.heap.size, 2, none⟩) (Nat.le_refl _) _⟩
    | x :: y :: t, HG, hnl, HD, HT, hacc =>
      simp only [List.length_cons] at hnl hacc
      have hlt : (n : Int) + 1 < (r.length : Int) + 1 + 1 := by omega
      have hgx : (c :: d :: r)[n]? = some x := by
        have := congrArg (fun l : List UInt8 => l[0]?) HD.out
        simpa [List.getElem?_drop] using this
      have hgy : (c :: d :: r)[n + 1]? = some y := by
        have := congrArg (fun l : List UInt8 => l[1]?) HD.out
        simpa [List.getElem?_drop] using this
      obtain ⟨a', ea, hab, hcs⟩ := (HS.out.next HBr.out hBW) (by simp)
      injection ea with ea
      subst ea
      have hca := hcs n _ hgx
      have hcb := hcs (n + 1) _ hgy
      rw [add_succ'] at hcb
      clear hgx hgy hcs
      by_cases hx0 : x = 0
      · have ex : ((x.toNat : Int) == 0) = true := by rw [hx0]; rfl
        by_cases hy1 : y = 1
        · have ey : ((y.toNat : Int) == 1) = true := by rw [hy1]; rfl
          have HTT : Hid (txtR (d :: r) = some (acc, t)) := by
            show _ = _
            rw [HT.out, txtR, if_pos hx0, if_pos hy1]
            simp [onward]
          have hsl := txtR_len HTT.out
          have hsx : (⟨acc.toArray⟩ : ByteArray).size ≤ maxLen := by show acc.toArray.size ≤ _; unfold maxLen; simp; simp only [List.length_cons] at hsl; omega
          have hcv := ownB_string wr _ _ _ HO.out
          have g0 := hVr.c0
          have g1 := hVr.c1
          have g2 := hVr.c2
          have f2 := hVr.fz 2
          obtain ⟨w4, hw4⟩ : ∃ w4, wr.setCell ⟨w1.heap.size, 2, none⟩ (.string ⟨acc.toArray⟩) = w4 := ⟨_, rfl⟩
          have HV4 : Hid (ValAt w4 w1.heap.size 3 0 ⟨acc.toArray⟩) := by rw [← hw4]; exact hVr.set2 _
          have HR4 : Hid (ValAt w4 W.heap.size 0 0 ⟨#[]⟩) := by rw [← hw4]; exact hRr.far (j := 2) HNE.out _
          have HB4 : Hid (Below W.heap.size W w4) := by rw [← hw4]; exact HBr.out.setCell (p := ⟨w1.heap.size, 2, none⟩) HB1.out.size _
          have HW4 := Lib.hid hw4
          clear hw4 hx0 hy1 hRr hVr
          go_upto_region 32 with (fail)
          rw [HW4.out]
          clear g0 g1 g2 f2 hcv hca hcb
          cases hm : mayB 3 0 ⟨acc.toArray⟩
          · have HM := Lib.hid hm
            clear hm
            have g0 := HV4.out.c0
            have g1 := HV4.out.c1
            have g2 := HV4.out.c2
            go_wp2_with fail
            refine (refMay_is _ hsx HM.out).mono ?_
            rintro e w5 ⟨rfl, hb5⟩
            have hV5 := HV4.out.next hb5 HV4.out.lt
            have hR5 := HR4.out.next hb5 HR4.out.lt
            have HB5 := Lib.hid (HB4.out.trans (hb5.mono HB4.out.size))
            clear g0 g1 g2 hb5
            have v0 := hV5.c0
            have v1 := hV5.c1
            have v2 := hV5.c2
            have g0 := hR5.c0
            have g1 := hR5.c1
            have g2 := hR5.c2
            have z0 := hR5.fz 0
            have z1 := hR5.fz 1
            have z2 := hR5.fz 2
            have HF := Lib.hid (((hR5.set0 0).set1 0).set2 ⟨#[]⟩)
            clear hV5 hR5
            go_wp2
            refine bodyPost_ret (v := .tuple #[valV 0 0 ⟨#[]⟩, .int .i64 0]) ?_ rfl ?_
            · rw [results_cell_tmp1 rfl]
              have h0 := HF.out.c0
              have h1 := HF.out.c1
              have h2 := HF.out.c2
              unfold valV
              go_simp
            · exact ⟨.inr ⟨(by first | (rw [hk]; exact oneR_txt_no (.inl rfl) HTT.out HM.out) | exact oneR_txt_no (.inl rfl) HTT.out HM.out), _, _, _, rfl⟩, ((HB5.out.setCell (p := ⟨W.heap.size, 0, none⟩) (Nat.le_refl _) _).setCell (p := ⟨W.heap.size, 1, none⟩) (Nat.le_refl _) _).setCell (p := ⟨W.heap.size, 2, none⟩) (Nat.le_refl _) _⟩
          · have HM := Lib.hid hm
            clear hm
            have g0 := HV4.out.c0
            have g1 := HV4.out.c1
            have g2 := HV4.out.c2
            go_wp2_with fail
            refine (refMay_is _ hsx HM.out).mono ?_
            rintro e w5 ⟨rfl, hb5⟩
            have hV5 := HV4.out.next hb5 HV4.out.lt
            have hR5 := HR4.out.next hb5 HR4.out.lt
            have HB5 := Lib.hid (HB4.out.trans (hb5.mono HB4.out.size))
            clear g0 g1 g2 hb5
            have v0 := hV5.c0
            have v1 := hV5.c1
            have v2 := hV5.c2
            have g0 := hR5.c0
            have g1 := hR5.c1
            have g2 := hR5.c2
            have z0 := hR5.fz 0
            have z1 := hR5.fz 1
            have z2 := hR5.fz 2
            have HF := Lib.hid (((hR5.set0 3).set1 0).set2 ⟨acc.toArray⟩)
            clear hV5 hR5
            go_wp2
            refine bodyPost_ret (v := .tuple #[valV 3 0 ⟨acc.toArray⟩, .int .i64 ((n : Int) + 2)]) ?_ rfl ?_
            · rw [results_cell_tmp1 rfl]
              have h0 := HF.out.c0
              have h1 := HF.out.c1
              have h2 := HF.out.c2
              unfold valV
              go_simp
            · exact ⟨(.inl ⟨_, _, acc, t, (by first | (rw [hk]; exact oneR_txt_yes (.inl rfl) HTT.out HM.out) | exact oneR_txt_yes (.inl rfl) HTT.out HM.out), (by rw [show (c :: d :: r).length - t.length = n + 2 by simp only [List.length_cons]; omega]; rfl)⟩), ((HB5.out.setCell (p := ⟨W.heap.size, 0, none⟩) (Nat.le_refl _) _).setCell (p := ⟨W.heap.size, 1, none⟩) (Nat.le_refl _) _).setCell (p := ⟨W.heap.size, 2, none⟩) (Nat.le_refl _) _⟩
        · have ey : ((y.toNat : Int) == 1) = false := by
            rw [beq_eq_false_iff_ne]
            exact fun e => hy1 (UInt8.toNat_inj.1 (by show y.toNat = 1; omega))
          by_cases hy2 : y = 255
          · have ey2 : ((y.toNat : Int) != 255) = false := by rw [hy2]; rfl
            have HT2 : Hid (txtR (d :: r) = onward (acc ++ [x]) (txtR t)) := by
              show _ = _
              rw [HT.out, txtR, if_pos hx0, if_neg hy1, if_pos hy2, hx0]
              unfold onward
              simp [Option.map_map, Function.comp_def]
            clear hx0 hy1 hy2
            go_wp2_with (at_builtin; refine wpList_append_own _ rfl _ _ 43 rfl w2.heap.size 5 i0 (.int .u8 0) 1 1 Try.underlying43 hi hz0 hz1 hz2 rfl (by decide) _ _ _ rfl (HO.out.alloc _) ⟨wr.heap.size, 0, none⟩ 1 1 (cellsL [x]) rfl rfl (fun j u h => cell_lit _ _ _ j u h) (cellsL_one _) (by omega) (by omega) (by simp; omega) ?_; intro v' w3 hown' hgrow _; have hca3 := ((below_own (HO.out.alloc (.cells #[.int .u8 (x.toNat : Int)] 5)) hgrow (by simp; omega)).cell (p := a.add n) (by rw [add_block]; exact HAW.out)).trans ((Below.refl wr.heap.size wr |>.alloc (Nat.le_refl _) (.cells #[.int .u8 (x.toNat : Int)] 5)).cell (p := a.add n) (by rw [add_block]; exact HAR.out) |>.trans hca))
            go_roundg t.length
            case measure => have := HG.out; simp only [List.length_cons] at this; omega
            case rel => exact ⟨n + 2, t, acc ++ [x], v', by go_num, rfl, (by show _ = _; rfl), by omega, by omega, (by show _ = _; have h9 := congrArg (List.drop 2) HD.out; rw [List.drop_drop] at h9; simpa using h9), HT2.out, by rw [List.length_append, List.length_singleton]; omega, (by rw [← cellsL_app] at hown'; show World.ownsRow _ _ _ _ _ _ _; simpa using hown'), (HB.out.alloc hsz _).trans (below_own (HO.out.alloc _) hgrow (by simp; omega)), by have q := hgrow.size; simp at q; omega⟩
          · have ey2 : ((y.toNat : Int) != 255) = true := by
              have : y.toNat ≠ 255 := fun e => hy2 (UInt8.toNat_inj.1 e)
              simp; omega
            have HN : Hid (txtR (d :: r) = none) := by
              show _ = _
              rw [HT.out, txtR, if_pos hx0, if_neg hy1, if_neg hy2]; rfl
            clear hx0 hy1 hy2
            have g0 := hRr.c0
            have g1 := hRr.c1
            have g2 := hRr.c2
            have z0 := hRr.fz 0
            have z1 := hRr.fz 1
            have z2 := hRr.fz 2
            have HF := Lib.hid (((hRr.set0 0).set1 0).set2 ⟨#[]⟩)
            go_wp2
            refine bodyPost_ret (v := .tuple #[valV 0 0 ⟨#[]⟩, .int .i64 0]) ?_ rfl ?_
            · rw [results_cell_tmp1 rfl]
              have h0 := HF.out.c0
              have h1 := HF.out.c1
              have h2 := HF.out.c2
              unfold valV
              go_simp
            · exact ⟨.inr ⟨(by first | (rw [hk]; exact oneR_txt_none (.inl rfl) HN.out) | exact oneR_txt_none (.inl rfl) HN.out), _, _, _, rfl⟩, ((HBr.out.setCell (p := ⟨W.heap.size, 0, none⟩) (Nat.le_refl _) _).setCell (p := ⟨W.heap.size, 1, none⟩) (Nat.le_refl _) _).setCell (p := ⟨W.heap.size, 2, none⟩) (Nat.le_refl _) _⟩
      · have ex : ((x.toNat : Int) == 0) = false := by
          rw [beq_eq_false_iff_ne]
          exact fun e => hx0 (UInt8.toNat_inj.1 (by show x.toNat = 0; omega))
        have HT2 : Hid (txtR (d :: r) = onward (acc ++ [x]) (txtR (y :: t))) := by
          show _ = _
          rw [HT.out, txtR, if_neg hx0]
          unfold onward
          simp [Option.map_map, Function.comp_def]
        clear hx0
        go_wp2_with (at_builtin; refine wpList_append_own _ rfl _ _ 43 rfl w2.heap.size 5 i0 (.int .u8 0) 1 1 Try.underlying43 hi hz0 hz1 hz2 rfl (by decide) _ _ _ rfl (HO.out.alloc _) ⟨wr.heap.size, 0, none⟩ 1 1 (cellsL [x]) rfl rfl (fun j u h => cell_lit _ _ _ j u h) (cellsL_one _) (by omega) (by omega) (by simp; omega) ?_; intro v' w3 hown' hgrow _; have hca3 := ((below_own (HO.out.alloc (.cells #[.int .u8 (x.toNat : Int)] 5)) hgrow (by simp; omega)).cell (p := a.add n) (by rw [add_block]; exact HAW.out)).trans ((Below.refl wr.heap.size wr |>.alloc (Nat.le_refl _) (.cells #[.int .u8 (x.toNat : Int)] 5)).cell (p := a.add n) (by rw [add_block]; exact HAR.out) |>.trans hca))
        go_roundg (t.length + 1)
        case measure => have := HG.out; simp only [List.length_cons] at this; omega
        case rel => exact ⟨n + 1, y :: t, acc ++ [x], v', by go_num, rfl, (by show _ = _; rfl), by simp only [List.length_cons]; omega, by omega, (by show _ = _; have h9 := congrArg (List.drop 1) HD.out; rw [List.drop_drop] at h9; simpa using h9), HT2.out, by rw [List.length_append, List.length_singleton, List.length_cons]; omega, (by rw [← cellsL_app] at hown'; show World.ownsRow _ _ _ _ _ _ _; simpa using hown'), (HB.out.alloc hsz _).trans (below_own (HO.out.alloc _) hgrow (by simp; omega)), by have q := hgrow.size; simp at q; omega⟩

set_option maxRecDepth 100000 in
set_option maxHeartbeats 2000000 in
theorem refOne_4 (a : Addr) (cp : Nat) (c d : UInt8) (r : List UInt8) (W : World) (B : Nat) (hBW : B ≤ W.heap.size) (hs : SlB W B (some a) (c :: d :: r)) (_hlc : r.length + 1 + 1 ≤ cp) (_hc : cp ≤ maxLen) (hl : r.length ≤ 5000) (hk : c = 4) :
    Calls Try.prog 114 #[.slice (some a) (r.length + 1 + 1) cp] W (OneRd W (c :: d :: r)) := by
  have hck : (c.toNat : Int) = 4 := by rw [hk]; rfl
  have hal : a.block < W.heap.size := by
    obtain ⟨a', e, h, _⟩ := hs (by simp)
    injection e with e; subst e; omega
  have HCL : Hid (W.cell? a = some (.int .u8 c.toNat)) := by
    obtain ⟨a', e, _, h⟩ := hs (by simp)
    injection e with e; subst e
    have := h 0 c rfl
    rwa [add_zero'] at this
  have HDL : Hid (W.cell? (a.add 1) = some (.int .u8 d.toNat)) := by
    obtain ⟨a', e, _, h⟩ := hs (by simp)
    injection e with e; subst e
    exact h 1 d rfl
  have HS := Lib.hid hs
  clear hs
  obtain ⟨w1, hw1⟩ : ∃ w1, W.alloc (.cells #[.int .i64 0, .int .i64 0, .string ⟨#[]⟩] 24) = w1 := ⟨_, rfl⟩
  have HB1 : Hid (Below W.heap.size W w1) := by rw [← hw1]; exact (Below.refl _ _).alloc (Nat.le_refl _) _
  have HR1 : Hid (ValAt w1 W.heap.size 0 0 ⟨#[]⟩) := by rw [← hw1]; exact valAt_new W 0 0 ⟨#[]⟩
  have HNE : Hid (W.heap.size ≠ w1.heap.size) := by show _ ≠ _; rw [← hw1]; simp
  have HW1 := Lib.hid hw1
  clear hw1
  have hwk : IntKind.i64.wrap 4 = 4 := by decide
  obtain ⟨w2, hw2⟩ : ∃ w2, w1.alloc (.cells #[.int .i64 4, .int .i64 0, .string ⟨#[]⟩] 24) = w2 := ⟨_, rfl⟩
  have HV2 : Hid (ValAt w2 w1.heap.size 4 0 ⟨#[]⟩) := by rw [← hw2]; exact valAt_new w1 4 0 ⟨#[]⟩
  have HB2 : Hid (Below w1.heap.size w1 w2) := by rw [← hw2]; exact (Below.refl _ _).alloc (Nat.le_refl _) _
  have HB12 : Hid (Below W.heap.size W w2) := HB1.out.trans (HB2.out.mono HB1.out.size)
  have HW2 := Lib.hid hw2
  clear hw2
  have hR2 : Hid (ValAt w2 W.heap.size 0 0 ⟨#[]⟩) := HR1.out.next HB2.out HR1.out.lt
  go_enter Try.func114, Try.ntmps114
  go_upto_region 1 with (fail)
  rw [HW1.out]
  have q1 := (HB1.out.cell (p := a) hal).trans HCL.out
  go_upto_region 4 with (fail)
  rw [HW2.out]
  clear q1
  have k0 := HV2.out.c0
  have k1 := HV2.out.c1
  have k2 := HV2.out.c2
  obtain ⟨i0, hi, hz0, hz1, hz2⟩ := info_parts info8
  have hmx : 50000 ≤ maxLen := by decide
  have HAW : Hid (a.block < w2.heap.size) := Nat.lt_of_lt_of_le hal HB12.out.size
  go_wp2
  go_loopg [5, 6] (r.length + 1) (fun g x y wr => ∃ (n : Nat) (L acc : List UInt8) (v : Value), x = .int .i64 n ∧ y = v ∧ Hid (L.length = g) ∧ n + L.length = r.length + 2 ∧ 1 ≤ n ∧ Hid ((c :: d :: r).drop n = L) ∧ Hid (txtR (d :: r) = onward acc (txtR L)) ∧ acc.length + L.length ≤ r.length + 1 ∧ Hid (OwnB wr w2.heap.size v acc) ∧ Hid (Below w2.heap.size w2 wr) ∧ w2.heap.size ≤ wr.heap.size)
  case atStart => exact ⟨1, d :: r, [], _, rfl, rfl, (by show _ = _; rfl), by simp only [List.length_cons]; omega, by omega, (by show _ = _; rfl), (by show _ = _; unfold onward; simp), by simp, ownB_nil _ _, Below.refl _ _, Nat.le_refl _⟩
  case round =>
    obtain ⟨n, L, acc, v, rfl, rfl, HG, hnl, hn1, HD, HT, hacc, HO, HB, hsz⟩ := hrel
    have hRr := hR2.out.next HB.out hR2.out.lt
    have hVr := HV2.out.next HB.out HV2.out.lt
    have HAR : Hid (a.block < wr.heap.size) := Nat.lt_of_lt_of_le HAW.out hsz
    have HBr : Hid (Below W.heap.size W wr) := HB12.out.trans (HB.out.mono HB12.out.size)
    clear k0 k1 k2
    match L, HG, hnl, HD, HT, hacc with
    | [], HG, hnl, HD, HT, hacc =>
      have hlt : ¬ ((n : Int) + 1 < (r.length : Int) + 1 + 1) := by simp at hnl; omega
      have HN : Hid (txtR (d :: r) = none) := by show _ = _; rw [HT.out]; rfl
      have g0 := hRr.c0
      have g1 := hRr.c1
      have g2 := hRr.c2
      have z0 := hRr.fz 0
      have z1 := hRr.fz 1
      have z2 := hRr.fz 2
      have HF := Lib.hid (((hRr.set0 0).set1 0).set2 ⟨#[]⟩)
      go_wp2
      refine bodyPost_ret (v := .tuple #[valV 0 0 ⟨#[]⟩, .int .i64 0]) ?_ rfl ?_
      · rw [results_cell_tmp1 rfl]
        have h0 := HF.out.c0
        have h1 := HF.out.c1
        have h2 := HF.out.c2
        unfold valV
        go_simp
      · exact ⟨.inr ⟨(by first | (rw [hk]; exact oneR_txt_none (.inr (.inl rfl)) HN.out) | exact oneR_txt_none (.inr (.inl rfl)) HN.out), _, _, _, rfl⟩, ((HBr.out.setCell (p := ⟨W.heap.size, 0, none⟩) (Nat.le_refl _) _).setCell (p := ⟨W.heap.size, 1, none⟩) (Nat.le_refl _) _).setCell (p := ⟨W.heap.size, 2, none⟩) (Nat.le_refl _) _⟩
    | [x], HG, hnl, HD, HT, hacc =>
      have hlt : ¬ ((n : Int) + 1 < (r.length : Int) + 1 + 1) := by simp at hnl; omega
      have HN : Hid (txtR (d :: r) = none) := by show _ = _; rw [HT.out]; rfl
      have g0 := hRr.c0
      have g1 := hRr.c1
      have g2 := hRr.c2
      have z0 := hRr.fz 0
      have z1 := hRr.fz 1
      have z2 := hRr.fz 2
      have HF := Lib.hid (((hRr.set0 0).set1 0).set2 ⟨#[]⟩)
      go_wp2
      refine bodyPost_ret (v := .tuple #[valV 0 0 ⟨#[]⟩, .int .i64 0]) ?_ rfl ?_
      · rw [results_cell_tmp1 rfl]
        have h0 := HF.out.c0
        have h1 := HF.out.c1
        have h2 := HF.out.c2
        unfold valV
        go_simp
      · exact ⟨.inr ⟨(by first | (rw [hk]; exact oneR_txt_none (.inr (.inl rfl)) HN.out) | exact oneR_txt_none (.inr (.inl rfl)) HN.out), _, _, _, rfl⟩, ((HBr.out.setCell (p := ⟨W.heap.size, 0, none⟩) (Nat.le_refl _) _).setCell (p := ⟨W.heap.size, 1, none⟩) (Nat.le_refl _) _).setCell (p := ⟨W.heap.size, 2, none⟩) (Nat.le_refl _) _⟩
    | x :: y :: t, HG, hnl, HD, HT, hacc =>
      simp only [List.length_cons] at hnl hacc
      have hlt : (n : Int) + 1 < (r.length : Int) + 1 + 1 := by omega
      have hgx : (c :: d :: r)[n]? = some x := by
        have := congrArg (fun l : List UInt8 => l[0]?) HD.out
        simpa [List.getElem?_drop] using this
      have hgy : (c :: d :: r)[n + 1]? = some y := by
        have := congrArg (fun l : List UInt8 => l[1]?) HD.out
        simpa [List.getElem?_drop] using this
      obtain ⟨a', ea, hab, hcs⟩ := (HS.out.next HBr.out hBW) (by simp)
      injection ea with ea
      subst ea
      have hca := hcs n _ hgx
      have hcb := hcs (n + 1) _ hgy
      rw [add_succ'] at hcb
      clear hgx hgy hcs
      by_cases hx0 : x = 0
      · have ex : ((x.toNat : Int) == 0) = true := by rw [hx0]; rfl
        by_cases hy1 : y = 1
        · have ey : ((y.toNat : Int) == 1) = true := by rw [hy1]; rfl
          have HTT : Hid (txtR (d :: r) = some (acc, t)) := by
            show _ = _
            rw [HT.out, txtR, if_pos hx0, if_pos hy1]
            simp [onward]
          have hsl := txtR_len HTT.out
          have hsx : (⟨acc.toArray⟩ : ByteArray).size ≤ maxLen := by show acc.toArray.size ≤ _; unfold maxLen; simp; simp only [List.length_cons] at hsl; omega
          have hcv := ownB_string wr _ _ _ HO.out
          have g0 := hVr.c0
          have g1 := hVr.c1
          have g2 := hVr.c2
          have f2 := hVr.fz 2
          obtain ⟨w4, hw4⟩ : ∃ w4, wr.setCell ⟨w1.heap.size, 2, none⟩ (.string ⟨acc.toArray⟩) = w4 := ⟨_, rfl⟩
          have HV4 : Hid (ValAt w4 w1.heap.size 4 0 ⟨acc.toArray⟩) := by rw [← hw4]; exact hVr.set2 _
          have HR4 : Hid (ValAt w4 W.heap.size 0 0 ⟨#[]⟩) := by rw [← hw4]; exact hRr.far (j := 2) HNE.out _
          have HB4 : Hid (Below W.heap.size W w4) := by rw [← hw4]; exact HBr.out.setCell (p := ⟨w1.heap.size, 2, none⟩) HB1.out.size _
          have HW4 := Lib.hid hw4
          clear hw4 hx0 hy1 hRr hVr
          go_upto_region 32 with (fail)
          rw [HW4.out]
          clear g0 g1 g2 f2 hcv hca hcb
          cases hm : mayB 4 0 ⟨acc.toArray⟩
          · have HM := Lib.hid hm
            clear hm
            have g0 := HV4.out.c0
            have g1 := HV4.out.c1
            have g2 := HV4.out.c2
            go_wp2_with fail
            refine (refMay_is _ hsx HM.out).mono ?_
            rintro e w5 ⟨rfl, hb5⟩
            have hV5 := HV4.out.next hb5 HV4.out.lt
            have hR5 := HR4.out.next hb5 HR4.out.lt
            have HB5 := Lib.hid (HB4.out.trans (hb5.mono HB4.out.size))
            clear g0 g1 g2 hb5
            have v0 := hV5.c0
            have v1 := hV5.c1
            have v2 := hV5.c2
            have g0 := hR5.c0
            have g1 := hR5.c1
            have g2 := hR5.c2
            have z0 := hR5.fz 0
            have z1 := hR5.fz 1
            have z2 := hR5.fz 2
            have HF := Lib.hid (((hR5.set0 0).set1 0).set2 ⟨#[]⟩)
            clear hV5 hR5
            go_wp2
            refine bodyPost_ret (v := .tuple #[valV 0 0 ⟨#[]⟩, .int .i64 0]) ?_ rfl ?_
            · rw [results_cell_tmp1 rfl]
              have h0 := HF.out.c0
              have h1 := HF.out.c1
              have h2 := HF.out.c2
              unfold valV
              go_simp
            · exact ⟨.inr ⟨(by first | (rw [hk]; exact oneR_txt_no (.inr (.inl rfl)) HTT.out HM.out) | exact oneR_txt_no (.inr (.inl rfl)) HTT.out HM.out), _, _, _, rfl⟩, ((HB5.out.setCell (p := ⟨W.heap.size, 0, none⟩) (Nat.le_refl _) _).setCell (p := ⟨W.heap.size, 1, none⟩) (Nat.le_refl _) _).setCell (p := ⟨W.heap.size, 2, none⟩) (Nat.le_refl _) _⟩
          · have HM := Lib.hid hm
            clear hm
            have g0 := HV4.out.c0
            have g1 := HV4.out.c1
            have g2 := HV4.out.c2
            go_wp2_with fail
            refine (refMay_is _ hsx HM.out).mono ?_
            rintro e w5 ⟨rfl, hb5⟩
            have hV5 := HV4.out.next hb5 HV4.out.lt
            have hR5 := HR4.out.next hb5 HR4.out.lt
            have HB5 := Lib.hid (HB4.out.trans (hb5.mono HB4.out.size))
            clear g0 g1 g2 hb5
            have v0 := hV5.c0
            have v1 := hV5.c1
            have v2 := hV5.c2
            have g0 := hR5.c0
            have g1 := hR5.c1
            have g2 := hR5.c2
            have z0 := hR5.fz 0
            have z1 := hR5.fz 1
            have z2 := hR5.fz 2
            have HF := Lib.hid (((hR5.set0 4).set1 0).set2 ⟨acc.toArray⟩)
            clear hV5 hR5
            go_wp2
            refine bodyPost_ret (v := .tuple #[valV 4 0 ⟨acc.toArray⟩, .int .i64 ((n : Int) + 2)]) ?_ rfl ?_
            · rw [results_cell_tmp1 rfl]
              have h0 := HF.out.c0
              have h1 := HF.out.c1
              have h2 := HF.out.c2
              unfold valV
              go_simp
            · exact ⟨(.inl ⟨_, _, acc, t, (by first | (rw [hk]; exact oneR_txt_yes (.inr (.inl rfl)) HTT.out HM.out) | exact oneR_txt_yes (.inr (.inl rfl)) HTT.out HM.out), (by rw [show (c :: d :: r).length - t.length = n + 2 by simp only [List.length_cons]; omega]; rfl)⟩), ((HB5.out.setCell (p := ⟨W.heap.size, 0, none⟩) (Nat.le_refl _) _).setCell (p := ⟨W.heap.size, 1, none⟩) (Nat.le_refl _) _).setCell (p := ⟨W.heap.size, 2, none⟩) (Nat.le_refl _) _⟩
        · have ey : ((y.toNat : Int) == 1) = false := by
            rw [beq_eq_false_iff_ne]
            exact fun e => hy1 (UInt8.toNat_inj.1 (by show y.toNat = 1; omega))
          by_cases hy2 : y = 255
          · have ey2 : ((y.toNat : Int) != 255) = false := by rw [hy2]; rfl
            have HT2 : Hid (txtR (d :: r) = onward (acc ++ [x]) (txtR t)) := by
              show _ = _
              rw [HT.out, txtR, if_pos hx0, if_neg hy1, if_pos hy2, hx0]
              unfold onward
              simp [Option.map_map, Function.comp_def]
            clear hx0 hy1 hy2
            go_wp2_with (at_builtin; refine wpList_append_own _ rfl _ _ 43 rfl w2.heap.size 5 i0 (.int .u8 0) 1 1 Try.underlying43 hi hz0 hz1 hz2 rfl (by decide) _ _ _ rfl (HO.out.alloc _) ⟨wr.heap.size, 0, none⟩ 1 1 (cellsL [x]) rfl rfl (fun j u h => cell_lit _ _ _ j u h) (cellsL_one _) (by omega) (by omega) (by simp; omega) ?_; intro v' w3 hown' hgrow _; have hca3 := ((below_own (HO.out.alloc (.cells #[.int .u8 (x.toNat : Int)] 5)) hgrow (by simp; omega)).cell (p := a.add n) (by rw [add_block]; exact HAW.out)).trans ((Below.refl wr.heap.size wr |>.alloc (Nat.le_refl _) (.cells #[.int .u8 (x.toNat : Int)] 5)).cell (p := a.add n) (by rw [add_block]; exact HAR.out) |>.trans hca))
            go_roundg t.length
            case measure => have := HG.out; simp only [List.length_cons] at this; omega
            case rel => exact ⟨n + 2, t, acc ++ [x], v', by go_num, rfl, (by show _ = _; rfl), by omega, by omega, (by show _ = _; have h9 := congrArg (List.drop 2) HD.out; rw [List.drop_drop] at h9; simpa using h9), HT2.out, by rw [List.length_append, List.length_singleton]; omega, (by rw [← cellsL_app] at hown'; show World.ownsRow _ _ _ _ _ _ _; simpa using hown'), (HB.out.alloc hsz _).trans (below_own (HO.out.alloc _) hgrow (by simp; omega)), by have q := hgrow.size; simp at q; omega⟩
          · have ey2 : ((y.toNat : Int) != 255) = true := by
              have : y.toNat ≠ 255 := fun e => hy2 (UInt8.toNat_inj.1 e)
              simp; omega
            have HN : Hid (txtR (d :: r) = none) := by
              show _ = _
              rw [HT.out, txtR, if_pos hx0, if_neg hy1, if_neg hy2]; rfl
            clear hx0 hy1 hy2
            have g0 := hRr.c0
            have g1 := hRr.c1
            have g2 := hRr.c2
            have z0 := hRr.fz 0
            have z1 := hRr.fz 1
            have z2 := hRr.fz 2
            have HF := Lib.hid (((hRr.set0 0).set1 0).set2 ⟨#[]⟩)
            go_wp2
            refine bodyPost_ret (v := .tuple #[valV 0 0 ⟨#[]⟩, .int .i64 0]) ?_ rfl ?_
            · rw [results_cell_tmp1 rfl]
              have h0 := HF.out.c0
              have h1 := HF.out.c1
              have h2 := HF.out.c2
              unfold valV
              go_simp
            · exact ⟨.inr ⟨(by first | (rw [hk]; exact oneR_txt_none (.inr (.inl rfl)) HN.out) | exact oneR_txt_none (.inr (.inl rfl)) HN.out), _, _, _, rfl⟩, ((HBr.out.setCell (p := ⟨W.heap.size, 0, none⟩) (Nat.le_refl _) _).setCell (p := ⟨W.heap.size, 1, none⟩) (Nat.le_refl _) _).setCell (p := ⟨W.heap.size, 2, none⟩) (Nat.le_refl _) _⟩
      · have ex : ((x.toNat : Int) == 0) = false := by
          rw [beq_eq_false_iff_ne]
          exact fun e => hx0 (UInt8.toNat_inj.1 (by show x.toNat = 0; omega))
        have HT2 : Hid (txtR (d :: r) = onward (acc ++ [x]) (txtR (y :: t))) := by
          show _ = _
          rw [HT.out, txtR, if_neg hx0]
          unfold onward
          simp [Option.map_map, Function.comp_def]
        clear hx0
        go_wp2_with (at_builtin; refine wpList_append_own _ rfl _ _ 43 rfl w2.heap.size 5 i0 (.int .u8 0) 1 1 Try.underlying43 hi hz0 hz1 hz2 rfl (by decide) _ _ _ rfl (HO.out.alloc _) ⟨wr.heap.size, 0, none⟩ 1 1 (cellsL [x]) rfl rfl (fun j u h => cell_lit _ _ _ j u h) (cellsL_one _) (by omega) (by omega) (by simp; omega) ?_; intro v' w3 hown' hgrow _; have hca3 := ((below_own (HO.out.alloc (.cells #[.int .u8 (x.toNat : Int)] 5)) hgrow (by simp; omega)).cell (p := a.add n) (by rw [add_block]; exact HAW.out)).trans ((Below.refl wr.heap.size wr |>.alloc (Nat.le_refl _) (.cells #[.int .u8 (x.toNat : Int)] 5)).cell (p := a.add n) (by rw [add_block]; exact HAR.out) |>.trans hca))
        go_roundg (t.length + 1)
        case measure => have := HG.out; simp only [List.length_cons] at this; omega
        case rel => exact ⟨n + 1, y :: t, acc ++ [x], v', by go_num, rfl, (by show _ = _; rfl), by simp only [List.length_cons]; omega, by omega, (by show _ = _; have h9 := congrArg (List.drop 1) HD.out; rw [List.drop_drop] at h9; simpa using h9), HT2.out, by rw [List.length_append, List.length_singleton, List.length_cons]; omega, (by rw [← cellsL_app] at hown'; show World.ownsRow _ _ _ _ _ _ _; simpa using hown'), (HB.out.alloc hsz _).trans (below_own (HO.out.alloc _) hgrow (by simp; omega)), by have q := hgrow.size; simp at q; omega⟩

set_option maxRecDepth 100000 in
set_option maxHeartbeats 2000000 in
theorem refOne_5 (a : Addr) (cp : Nat) (c d : UInt8) (r : List UInt8) (W : World) (B : Nat) (hBW : B ≤ W.heap.size) (hs : SlB W B (some a) (c :: d :: r)) (hlc : r.length + 1 + 1 ≤ cp) (_hc : cp ≤ maxLen) (_hl : r.length ≤ 5000) (hk : c = 5) :
    Calls Try.prog 114 #[.slice (some a) (r.length + 1 + 1) cp] W (OneRd W (c :: d :: r)) := by
  have hck : (c.toNat : Int) = 5 := by rw [hk]; rfl
  have hal : a.block < W.heap.size := by
    obtain ⟨a', e, h, _⟩ := hs (by simp)
    injection e with e; subst e; omega
  have HCL : Hid (W.cell? a = some (.int .u8 c.toNat)) := by
    obtain ⟨a', e, _, h⟩ := hs (by simp)
    injection e with e; subst e
    have := h 0 c rfl
    rwa [add_zero'] at this
  have HDL : Hid (W.cell? (a.add 1) = some (.int .u8 d.toNat)) := by
    obtain ⟨a', e, _, h⟩ := hs (by simp)
    injection e with e; subst e
    exact h 1 d rfl
  have HS := Lib.hid hs
  clear hs
  obtain ⟨w1, hw1⟩ : ∃ w1, W.alloc (.cells #[.int .i64 0, .int .i64 0, .string ⟨#[]⟩] 24) = w1 := ⟨_, rfl⟩
  have HB1 : Hid (Below W.heap.size W w1) := by rw [← hw1]; exact (Below.refl _ _).alloc (Nat.le_refl _) _
  have HR1 : Hid (ValAt w1 W.heap.size 0 0 ⟨#[]⟩) := by rw [← hw1]; exact valAt_new W 0 0 ⟨#[]⟩
  have HNE : Hid (W.heap.size ≠ w1.heap.size) := by show _ ≠ _; rw [← hw1]; simp
  have HW1 := Lib.hid hw1
  clear hw1
  have hwk : IntKind.i64.wrap 5 = 5 := by decide
  obtain ⟨w2, hw2⟩ : ∃ w2, w1.alloc (.cells #[.int .i64 5, .int .i64 0, .string ⟨#[]⟩] 24) = w2 := ⟨_, rfl⟩
  have HV2 : Hid (ValAt w2 w1.heap.size 5 0 ⟨#[]⟩) := by rw [← hw2]; exact valAt_new w1 5 0 ⟨#[]⟩
  have HB2 : Hid (Below w1.heap.size w1 w2) := by rw [← hw2]; exact (Below.refl _ _).alloc (Nat.le_refl _) _
  have HB12 : Hid (Below W.heap.size W w2) := HB1.out.trans (HB2.out.mono HB1.out.size)
  have HW2 := Lib.hid hw2
  clear hw2
  have hR2 : Hid (ValAt w2 W.heap.size 0 0 ⟨#[]⟩) := HR1.out.next HB2.out HR1.out.lt
  go_enter Try.func114, Try.ntmps114
  go_upto_region 1 with (fail)
  rw [HW1.out]
  have q1 := (HB1.out.cell (p := a) hal).trans HCL.out
  go_upto_region 4 with (fail)
  rw [HW2.out]
  clear q1
  have k0 := HV2.out.c0
  have k1 := HV2.out.c1
  have k2 := HV2.out.c2
  by_cases h9 : (r.length : Int) + 1 + 1 < 9
  · have h9n : (d :: r).length < 8 := by simp only [List.length_cons]; omega
    have g0 := hR2.out.c0
    have g1 := hR2.out.c1
    have g2 := hR2.out.c2
    have z0 := hR2.out.fz 0
    have z1 := hR2.out.fz 1
    have z2 := hR2.out.fz 2
    have HF := Lib.hid (((hR2.out.set0 0).set1 0).set2 ⟨#[]⟩)
    go_wp2
    refine bodyPost_ret (v := .tuple #[valV 0 0 ⟨#[]⟩, .int .i64 0]) ?_ rfl ?_
    · rw [results_cell_tmp1 rfl]
      have h0 := HF.out.c0
      have h1 := HF.out.c1
      have h2 := HF.out.c2
      unfold valV
      go_simp
    · exact ⟨.inr ⟨(by first | (rw [hk]; exact oneR_num_none (.inr (.inl rfl)) h9n) | exact oneR_num_none (.inr (.inl rfl)) h9n), _, _, _, rfl⟩, ((HB12.out.setCell (p := ⟨W.heap.size, 0, none⟩) (Nat.le_refl _) _).setCell (p := ⟨W.heap.size, 1, none⟩) (Nat.le_refl _) _).setCell (p := ⟨W.heap.size, 2, none⟩) (Nat.le_refl _) _⟩
  · have h9n : 8 ≤ (d :: r).length := by simp only [List.length_cons]; omega
    have hsx : (⟨#[]⟩ : ByteArray).size ≤ maxLen := by decide
    have hcp1 : ¬ cp = 1 := by omega
    have hS2 : SlB w2 B (some ⟨a.block, a.off + 1, none⟩) (d :: r) := by
      have := HS.out.cut (show (c :: d :: r).length ≤ cp from hlc) 1
      rw [if_neg hcp1] at this
      exact this.next HB12.out hBW
    have HC := Lib.hid (refNum_any (some ⟨a.block, a.off + 1, none⟩) (cp - 1) (d :: r) w2 B hS2 (by simp only [List.length_cons]; omega) h9n)
    clear hS2
    have f1 := HV2.out.fz 1
    go_wp2_with fail
    refine HC.out.mono ?_
    rintro e w3 ⟨rfl, rfl⟩
    obtain ⟨w4, hw4⟩ : ∃ w4, w3.setCell ⟨w1.heap.size, 1, none⟩ (.int .i64 (numR (d :: r))) = w4 := ⟨_, rfl⟩
    have HV4 : Hid (ValAt w4 w1.heap.size 5 (numR (d :: r)) ⟨#[]⟩) := by rw [← hw4]; exact HV2.out.set1 _
    have HR4 : Hid (ValAt w4 W.heap.size 0 0 ⟨#[]⟩) := by rw [← hw4]; exact hR2.out.far (j := 1) HNE.out _
    have HB4 : Hid (Below W.heap.size W w4) := by rw [← hw4]; exact HB12.out.setCell (p := ⟨w1.heap.size, 1, none⟩) HB1.out.size _
    have HW4 := Lib.hid hw4
    clear hw4
    go_upto_region 32 with (fail)
    rw [HW4.out]
    clear k0 k1 k2 f1
    cases hm : mayB 5 (numR (d :: r)) ⟨#[]⟩
    · have HM := Lib.hid hm
      clear hm
      have g0 := HV4.out.c0
      have g1 := HV4.out.c1
      have g2 := HV4.out.c2
      go_wp2_with fail
      refine (refMay_is _ hsx HM.out).mono ?_
      rintro e w5 ⟨rfl, hb5⟩
      have hV5 := HV4.out.next hb5 HV4.out.lt
      have hR5 := HR4.out.next hb5 HR4.out.lt
      have HB5 := Lib.hid (HB4.out.trans (hb5.mono HB4.out.size))
      clear g0 g1 g2 hb5
      have v0 := hV5.c0
      have v1 := hV5.c1
      have v2 := hV5.c2
      have g0 := hR5.c0
      have g1 := hR5.c1
      have g2 := hR5.c2
      have z0 := hR5.fz 0
      have z1 := hR5.fz 1
      have z2 := hR5.fz 2
      have HF := Lib.hid (((hR5.set0 0).set1 0).set2 ⟨#[]⟩)
      clear hV5 hR5
      go_wp2
      refine bodyPost_ret (v := .tuple #[valV 0 0 ⟨#[]⟩, .int .i64 0]) ?_ rfl ?_
      · rw [results_cell_tmp1 rfl]
        have h0 := HF.out.c0
        have h1 := HF.out.c1
        have h2 := HF.out.c2
        unfold valV
        go_simp
      · exact ⟨.inr ⟨(by first | (rw [hk]; exact oneR_num_no (.inr (.inl rfl)) HM.out) | exact oneR_num_no (.inr (.inl rfl)) HM.out), _, _, _, rfl⟩, ((HB5.out.setCell (p := ⟨W.heap.size, 0, none⟩) (Nat.le_refl _) _).setCell (p := ⟨W.heap.size, 1, none⟩) (Nat.le_refl _) _).setCell (p := ⟨W.heap.size, 2, none⟩) (Nat.le_refl _) _⟩
    · have HM := Lib.hid hm
      clear hm
      have g0 := HV4.out.c0
      have g1 := HV4.out.c1
      have g2 := HV4.out.c2
      go_wp2_with fail
      refine (refMay_is _ hsx HM.out).mono ?_
      rintro e w5 ⟨rfl, hb5⟩
      have hV5 := HV4.out.next hb5 HV4.out.lt
      have hR5 := HR4.out.next hb5 HR4.out.lt
      have HB5 := Lib.hid (HB4.out.trans (hb5.mono HB4.out.size))
      clear g0 g1 g2 hb5
      have v0 := hV5.c0
      have v1 := hV5.c1
      have v2 := hV5.c2
      have g0 := hR5.c0
      have g1 := hR5.c1
      have g2 := hR5.c2
      have z0 := hR5.fz 0
      have z1 := hR5.fz 1
      have z2 := hR5.fz 2
      have HF := Lib.hid (((hR5.set0 5).set1 (numR (d :: r))).set2 ⟨#[]⟩)
      clear hV5 hR5
      go_wp2
      refine bodyPost_ret (v := .tuple #[valV 5 (numR (d :: r)) ⟨#[]⟩, .int .i64 9]) ?_ rfl ?_
      · rw [results_cell_tmp1 rfl]
        have h0 := HF.out.c0
        have h1 := HF.out.c1
        have h2 := HF.out.c2
        unfold valV
        go_simp
      · exact ⟨(.inl ⟨_, _, [], _, (by first | (rw [hk]; exact oneR_num_yes (.inr (.inl rfl)) h9n HM.out) | exact oneR_num_yes (.inr (.inl rfl)) h9n HM.out), (by rw [show (c :: d :: r).length - ((d :: r).drop 8).length = 9 by simp only [List.length_cons, List.length_drop] at h9n ⊢; omega]; rfl)⟩), ((HB5.out.setCell (p := ⟨W.heap.size, 0, none⟩) (Nat.le_refl _) _).setCell (p := ⟨W.heap.size, 1, none⟩) (Nat.le_refl _) _).setCell (p := ⟨W.heap.size, 2, none⟩) (Nat.le_refl _) _⟩

set_option maxRecDepth 100000 in
set_option maxHeartbeats 2000000 in
theorem refOne_6 (a : Addr) (cp : Nat) (c d : UInt8) (r : List UInt8) (W : World) (B : Nat) (hBW : B ≤ W.heap.size) (hs : SlB W B (some a) (c :: d :: r)) (hlc : r.length + 1 + 1 ≤ cp) (_hc : cp ≤ maxLen) (_hl : r.length ≤ 5000) (hk : c = 6) :
    Calls Try.prog 114 #[.slice (some a) (r.length + 1 + 1) cp] W (OneRd W (c :: d :: r)) := by
  have hck : (c.toNat : Int) = 6 := by rw [hk]; rfl
  have hal : a.block < W.heap.size := by
    obtain ⟨a', e, h, _⟩ := hs (by simp)
    injection e with e; subst e; omega
  have HCL : Hid (W.cell? a = some (.int .u8 c.toNat)) := by
    obtain ⟨a', e, _, h⟩ := hs (by simp)
    injection e with e; subst e
    have := h 0 c rfl
    rwa [add_zero'] at this
  have HDL : Hid (W.cell? (a.add 1) = some (.int .u8 d.toNat)) := by
    obtain ⟨a', e, _, h⟩ := hs (by simp)
    injection e with e; subst e
    exact h 1 d rfl
  have HS := Lib.hid hs
  clear hs
  obtain ⟨w1, hw1⟩ : ∃ w1, W.alloc (.cells #[.int .i64 0, .int .i64 0, .string ⟨#[]⟩] 24) = w1 := ⟨_, rfl⟩
  have HB1 : Hid (Below W.heap.size W w1) := by rw [← hw1]; exact (Below.refl _ _).alloc (Nat.le_refl _) _
  have HR1 : Hid (ValAt w1 W.heap.size 0 0 ⟨#[]⟩) := by rw [← hw1]; exact valAt_new W 0 0 ⟨#[]⟩
  have HNE : Hid (W.heap.size ≠ w1.heap.size) := by show _ ≠ _; rw [← hw1]; simp
  have HW1 := Lib.hid hw1
  clear hw1
  have hwk : IntKind.i64.wrap 6 = 6 := by decide
  obtain ⟨w2, hw2⟩ : ∃ w2, w1.alloc (.cells #[.int .i64 6, .int .i64 0, .string ⟨#[]⟩] 24) = w2 := ⟨_, rfl⟩
  have HV2 : Hid (ValAt w2 w1.heap.size 6 0 ⟨#[]⟩) := by rw [← hw2]; exact valAt_new w1 6 0 ⟨#[]⟩
  have HB2 : Hid (Below w1.heap.size w1 w2) := by rw [← hw2]; exact (Below.refl _ _).alloc (Nat.le_refl _) _
  have HB12 : Hid (Below W.heap.size W w2) := HB1.out.trans (HB2.out.mono HB1.out.size)
  have HW2 := Lib.hid hw2
  clear hw2
  have hR2 : Hid (ValAt w2 W.heap.size 0 0 ⟨#[]⟩) := HR1.out.next HB2.out HR1.out.lt
  go_enter Try.func114, Try.ntmps114
  go_upto_region 1 with (fail)
  rw [HW1.out]
  have q1 := (HB1.out.cell (p := a) hal).trans HCL.out
  go_upto_region 4 with (fail)
  rw [HW2.out]
  clear q1
  have k0 := HV2.out.c0
  have k1 := HV2.out.c1
  have k2 := HV2.out.c2
  by_cases h9 : (r.length : Int) + 1 + 1 < 9
  · have h9n : (d :: r).length < 8 := by simp only [List.length_cons]; omega
    have g0 := hR2.out.c0
    have g1 := hR2.out.c1
    have g2 := hR2.out.c2
    have z0 := hR2.out.fz 0
    have z1 := hR2.out.fz 1
    have z2 := hR2.out.fz 2
    have HF := Lib.hid (((hR2.out.set0 0).set1 0).set2 ⟨#[]⟩)
    go_wp2
    refine bodyPost_ret (v := .tuple #[valV 0 0 ⟨#[]⟩, .int .i64 0]) ?_ rfl ?_
    · rw [results_cell_tmp1 rfl]
      have h0 := HF.out.c0
      have h1 := HF.out.c1
      have h2 := HF.out.c2
      unfold valV
      go_simp
    · exact ⟨.inr ⟨(by first | (rw [hk]; exact oneR_num_none (.inr (.inr rfl)) h9n) | exact oneR_num_none (.inr (.inr rfl)) h9n), _, _, _, rfl⟩, ((HB12.out.setCell (p := ⟨W.heap.size, 0, none⟩) (Nat.le_refl _) _).setCell (p := ⟨W.heap.size, 1, none⟩) (Nat.le_refl _) _).setCell (p := ⟨W.heap.size, 2, none⟩) (Nat.le_refl _) _⟩
  · have h9n : 8 ≤ (d :: r).length := by simp only [List.length_cons]; omega
    have hsx : (⟨#[]⟩ : ByteArray).size ≤ maxLen := by decide
    have hcp1 : ¬ cp = 1 := by omega
    have hS2 : SlB w2 B (some ⟨a.block, a.off + 1, none⟩) (d :: r) := by
      have := HS.out.cut (show (c :: d :: r).length ≤ cp from hlc) 1
      rw [if_neg hcp1] at this
      exact this.next HB12.out hBW
    have HC := Lib.hid (refNum_any (some ⟨a.block, a.off + 1, none⟩) (cp - 1) (d :: r) w2 B hS2 (by simp only [List.length_cons]; omega) h9n)
    clear hS2
    have f1 := HV2.out.fz 1
    go_wp2_with fail
    refine HC.out.mono ?_
    rintro e w3 ⟨rfl, rfl⟩
    obtain ⟨w4, hw4⟩ : ∃ w4, w3.setCell ⟨w1.heap.size, 1, none⟩ (.int .i64 (numR (d :: r))) = w4 := ⟨_, rfl⟩
    have HV4 : Hid (ValAt w4 w1.heap.size 6 (numR (d :: r)) ⟨#[]⟩) := by rw [← hw4]; exact HV2.out.set1 _
    have HR4 : Hid (ValAt w4 W.heap.size 0 0 ⟨#[]⟩) := by rw [← hw4]; exact hR2.out.far (j := 1) HNE.out _
    have HB4 : Hid (Below W.heap.size W w4) := by rw [← hw4]; exact HB12.out.setCell (p := ⟨w1.heap.size, 1, none⟩) HB1.out.size _
    have HW4 := Lib.hid hw4
    clear hw4
    go_upto_region 32 with (fail)
    rw [HW4.out]
    clear k0 k1 k2 f1
    cases hm : mayB 6 (numR (d :: r)) ⟨#[]⟩
    · have HM := Lib.hid hm
      clear hm
      have g0 := HV4.out.c0
      have g1 := HV4.out.c1
      have g2 := HV4.out.c2
      go_wp2_with fail
      refine (refMay_is _ hsx HM.out).mono ?_
      rintro e w5 ⟨rfl, hb5⟩
      have hV5 := HV4.out.next hb5 HV4.out.lt
      have hR5 := HR4.out.next hb5 HR4.out.lt
      have HB5 := Lib.hid (HB4.out.trans (hb5.mono HB4.out.size))
      clear g0 g1 g2 hb5
      have v0 := hV5.c0
      have v1 := hV5.c1
      have v2 := hV5.c2
      have g0 := hR5.c0
      have g1 := hR5.c1
      have g2 := hR5.c2
      have z0 := hR5.fz 0
      have z1 := hR5.fz 1
      have z2 := hR5.fz 2
      have HF := Lib.hid (((hR5.set0 0).set1 0).set2 ⟨#[]⟩)
      clear hV5 hR5
      go_wp2
      refine bodyPost_ret (v := .tuple #[valV 0 0 ⟨#[]⟩, .int .i64 0]) ?_ rfl ?_
      · rw [results_cell_tmp1 rfl]
        have h0 := HF.out.c0
        have h1 := HF.out.c1
        have h2 := HF.out.c2
        unfold valV
        go_simp
      · exact ⟨.inr ⟨(by first | (rw [hk]; exact oneR_num_no (.inr (.inr rfl)) HM.out) | exact oneR_num_no (.inr (.inr rfl)) HM.out), _, _, _, rfl⟩, ((HB5.out.setCell (p := ⟨W.heap.size, 0, none⟩) (Nat.le_refl _) _).setCell (p := ⟨W.heap.size, 1, none⟩) (Nat.le_refl _) _).setCell (p := ⟨W.heap.size, 2, none⟩) (Nat.le_refl _) _⟩
    · have HM := Lib.hid hm
      clear hm
      have g0 := HV4.out.c0
      have g1 := HV4.out.c1
      have g2 := HV4.out.c2
      go_wp2_with fail
      refine (refMay_is _ hsx HM.out).mono ?_
      rintro e w5 ⟨rfl, hb5⟩
      have hV5 := HV4.out.next hb5 HV4.out.lt
      have hR5 := HR4.out.next hb5 HR4.out.lt
      have HB5 := Lib.hid (HB4.out.trans (hb5.mono HB4.out.size))
      clear g0 g1 g2 hb5
      have v0 := hV5.c0
      have v1 := hV5.c1
      have v2 := hV5.c2
      have g0 := hR5.c0
      have g1 := hR5.c1
      have g2 := hR5.c2
      have z0 := hR5.fz 0
      have z1 := hR5.fz 1
      have z2 := hR5.fz 2
      have HF := Lib.hid (((hR5.set0 6).set1 (numR (d :: r))).set2 ⟨#[]⟩)
      clear hV5 hR5
      go_wp2
      refine bodyPost_ret (v := .tuple #[valV 6 (numR (d :: r)) ⟨#[]⟩, .int .i64 9]) ?_ rfl ?_
      · rw [results_cell_tmp1 rfl]
        have h0 := HF.out.c0
        have h1 := HF.out.c1
        have h2 := HF.out.c2
        unfold valV
        go_simp
      · exact ⟨(.inl ⟨_, _, [], _, (by first | (rw [hk]; exact oneR_num_yes (.inr (.inr rfl)) h9n HM.out) | exact oneR_num_yes (.inr (.inr rfl)) h9n HM.out), (by rw [show (c :: d :: r).length - ((d :: r).drop 8).length = 9 by simp only [List.length_cons, List.length_drop] at h9n ⊢; omega]; rfl)⟩), ((HB5.out.setCell (p := ⟨W.heap.size, 0, none⟩) (Nat.le_refl _) _).setCell (p := ⟨W.heap.size, 1, none⟩) (Nat.le_refl _) _).setCell (p := ⟨W.heap.size, 2, none⟩) (Nat.le_refl _) _⟩

set_option maxRecDepth 100000 in
set_option maxHeartbeats 2000000 in
theorem refOne_7 (a : Addr) (cp : Nat) (c d : UInt8) (r : List UInt8) (W : World) (B : Nat) (hBW : B ≤ W.heap.size) (hs : SlB W B (some a) (c :: d :: r)) (_hlc : r.length + 1 + 1 ≤ cp) (_hc : cp ≤ maxLen) (hl : r.length ≤ 5000) (hk : c = 7) :
    Calls Try.prog 114 #[.slice (some a) (r.length + 1 + 1) cp] W (OneRd W (c :: d :: r)) := by
  have hck : (c.toNat : Int) = 7 := by rw [hk]; rfl
  have hal : a.block < W.heap.size := by
    obtain ⟨a', e, h, _⟩ := hs (by simp)
    injection e with e; subst e; omega
  have HCL : Hid (W.cell? a = some (.int .u8 c.toNat)) := by
    obtain ⟨a', e, _, h⟩ := hs (by simp)
    injection e with e; subst e
    have := h 0 c rfl
    rwa [add_zero'] at this
  have HDL : Hid (W.cell? (a.add 1) = some (.int .u8 d.toNat)) := by
    obtain ⟨a', e, _, h⟩ := hs (by simp)
    injection e with e; subst e
    exact h 1 d rfl
  have HS := Lib.hid hs
  clear hs
  obtain ⟨w1, hw1⟩ : ∃ w1, W.alloc (.cells #[.int .i64 0, .int .i64 0, .string ⟨#[]⟩] 24) = w1 := ⟨_, rfl⟩
  have HB1 : Hid (Below W.heap.size W w1) := by rw [← hw1]; exact (Below.refl _ _).alloc (Nat.le_refl _) _
  have HR1 : Hid (ValAt w1 W.heap.size 0 0 ⟨#[]⟩) := by rw [← hw1]; exact valAt_new W 0 0 ⟨#[]⟩
  have HNE : Hid (W.heap.size ≠ w1.heap.size) := by show _ ≠ _; rw [← hw1]; simp
  have HW1 := Lib.hid hw1
  clear hw1
  have hwk : IntKind.i64.wrap 7 = 7 := by decide
  obtain ⟨w2, hw2⟩ : ∃ w2, w1.alloc (.cells #[.int .i64 7, .int .i64 0, .string ⟨#[]⟩] 24) = w2 := ⟨_, rfl⟩
  have HV2 : Hid (ValAt w2 w1.heap.size 7 0 ⟨#[]⟩) := by rw [← hw2]; exact valAt_new w1 7 0 ⟨#[]⟩
  have HB2 : Hid (Below w1.heap.size w1 w2) := by rw [← hw2]; exact (Below.refl _ _).alloc (Nat.le_refl _) _
  have HB12 : Hid (Below W.heap.size W w2) := HB1.out.trans (HB2.out.mono HB1.out.size)
  have HW2 := Lib.hid hw2
  clear hw2
  have hR2 : Hid (ValAt w2 W.heap.size 0 0 ⟨#[]⟩) := HR1.out.next HB2.out HR1.out.lt
  go_enter Try.func114, Try.ntmps114
  go_upto_region 1 with (fail)
  rw [HW1.out]
  have q1 := (HB1.out.cell (p := a) hal).trans HCL.out
  go_upto_region 4 with (fail)
  rw [HW2.out]
  clear q1
  have k0 := HV2.out.c0
  have k1 := HV2.out.c1
  have k2 := HV2.out.c2
  obtain ⟨i0, hi, hz0, hz1, hz2⟩ := info_parts info8
  have hmx : 50000 ≤ maxLen := by decide
  have HAW : Hid (a.block < w2.heap.size) := Nat.lt_of_lt_of_le hal HB12.out.size
  go_wp2
  go_loopg [5, 6] (r.length + 1) (fun g x y wr => ∃ (n : Nat) (L acc : List UInt8) (v : Value), x = .int .i64 n ∧ y = v ∧ Hid (L.length = g) ∧ n + L.length = r.length + 2 ∧ 1 ≤ n ∧ Hid ((c :: d :: r).drop n = L) ∧ Hid (txtR (d :: r) = onward acc (txtR L)) ∧ acc.length + L.length ≤ r.length + 1 ∧ Hid (OwnB wr w2.heap.size v acc) ∧ Hid (Below w2.heap.size w2 wr) ∧ w2.heap.size ≤ wr.heap.size)
  case atStart => exact ⟨1, d :: r, [], _, rfl, rfl, (by show _ = _; rfl), by simp only [List.length_cons]; omega, by omega, (by show _ = _; rfl), (by show _ = _; unfold onward; simp), by simp, ownB_nil _ _, Below.refl _ _, Nat.le_refl _⟩
  case round =>
    obtain ⟨n, L, acc, v, rfl, rfl, HG, hnl, hn1, HD, HT, hacc, HO, HB, hsz⟩ := hrel
    have hRr := hR2.out.next HB.out hR2.out.lt
    have hVr := HV2.out.next HB.out HV2.out.lt
    have HAR : Hid (a.block < wr.heap.size) := Nat.lt_of_lt_of_le HAW.out hsz
    have HBr : Hid (Below W.heap.size W wr) := HB12.out.trans (HB.out.mono HB12.out.size)
    clear k0 k1 k2
    match L, HG, hnl, HD, HT, hacc with
    | [], HG, hnl, HD, HT, hacc =>
      have hlt : ¬ ((n : Int) + 1 < (r.length : Int) + 1 + 1) := by simp at hnl; omega
      have HN : Hid (txtR (d :: r) = none) := by show _ = _; rw [HT.out]; rfl
      have g0 := hRr.c0
      have g1 := hRr.c1
      have g2 := hRr.c2
      have z0 := hRr.fz 0
      have z1 := hRr.fz 1
      have z2 := hRr.fz 2
      have HF := Lib.hid (((hRr.set0 0).set1 0).set2 ⟨#[]⟩)
      go_wp2
      refine bodyPost_ret (v := .tuple #[valV 0 0 ⟨#[]⟩, .int .i64 0]) ?_ rfl ?_
      · rw [results_cell_tmp1 rfl]
        have h0 := HF.out.c0
        have h1 := HF.out.c1
        have h2 := HF.out.c2
        unfold valV
        go_simp
      · exact ⟨.inr ⟨(by first | (rw [hk]; exact oneR_txt_none (.inr (.inr rfl)) HN.out) | exact oneR_txt_none (.inr (.inr rfl)) HN.out), _, _, _, rfl⟩, ((HBr.out.setCell (p := ⟨W.heap.size, 0, none⟩) (Nat.le_refl _) _).setCell (p := ⟨W.heap.size, 1, none⟩) (Nat.le_refl _) _).setCell (p := ⟨W.heap.size, 2, none⟩) (Nat.le_refl _) _⟩
    | [x], HG, hnl, HD, HT, hacc =>
      have hlt : ¬ ((n : Int) + 1 < (r.length : Int) + 1 + 1) := by simp at hnl; omega
      have HN : Hid (txtR (d :: r) = none) := by show _ = _; rw [HT.out]; rfl
      have g0 := hRr.c0
      have g1 := hRr.c1
      have g2 := hRr.c2
      have z0 := hRr.fz 0
      have z1 := hRr.fz 1
      have z2 := hRr.fz 2
      have HF := Lib.hid (((hRr.set0 0).set1 0).set2 ⟨#[]⟩)
      go_wp2
      refine bodyPost_ret (v := .tuple #[valV 0 0 ⟨#[]⟩, .int .i64 0]) ?_ rfl ?_
      · rw [results_cell_tmp1 rfl]
        have h0 := HF.out.c0
        have h1 := HF.out.c1
        have h2 := HF.out.c2
        unfold valV
        go_simp
      · exact ⟨.inr ⟨(by first | (rw [hk]; exact oneR_txt_none (.inr (.inr rfl)) HN.out) | exact oneR_txt_none (.inr (.inr rfl)) HN.out), _, _, _, rfl⟩, ((HBr.out.setCell (p := ⟨W.heap.size, 0, none⟩) (Nat.le_refl _) _).setCell (p := ⟨W.heap.size, 1, none⟩) (Nat.le_refl _) _).setCell (p := ⟨W.heap.size, 2, none⟩) (Nat.le_refl _) _⟩
    | x :: y :: t, HG, hnl, HD, HT, hacc =>
      simp only [List.length_cons] at hnl hacc
      have hlt : (n : Int) + 1 < (r.length : Int) + 1 + 1 := by omega
      have hgx : (c :: d :: r)[n]? = some x := by
        have := congrArg (fun l : List UInt8 => l[0]?) HD.out
        simpa [List.getElem?_drop] using this
      have hgy : (c :: d :: r)[n + 1]? = some y := by
        have := congrArg (fun l : List UInt8 => l[1]?) HD.out
        simpa [List.getElem?_drop] using this
      obtain ⟨a', ea, hab, hcs⟩ := (HS.out.next HBr.out hBW) (by simp)
      injection ea with ea
      subst ea
      have hca := hcs n _ hgx
      have hcb := hcs (n + 1) _ hgy
      rw [add_succ'] at hcb
      clear hgx hgy hcs
      by_cases hx0 : x = 0
      · have ex : ((x.toNat : Int) == 0) = true := by rw [hx0]; rfl
        by_cases hy1 : y = 1
        · have ey : ((y.toNat : Int) == 1) = true := by rw [hy1]; rfl
          have HTT : Hid (txtR (d :: r) = some (acc, t)) := by
            show _ = _
            rw [HT.out, txtR, if_pos hx0, if_pos hy1]
            simp [onward]
          have hsl := txtR_len HTT.out
          have hsx : (⟨acc.toArray⟩ : ByteArray).size ≤ maxLen := by show acc.toArray.size ≤ _; unfold maxLen; simp; simp only [List.length_cons] at hsl; omega
          have hcv := ownB_string wr _ _ _ HO.out
          have g0 := hVr.c0
          have g1 := hVr.c1
          have g2 := hVr.c2
          have f2 := hVr.fz 2
          obtain ⟨w4, hw4⟩ : ∃ w4, wr.setCell ⟨w1.heap.size, 2, none⟩ (.string ⟨acc.toArray⟩) = w4 := ⟨_, rfl⟩
          have HV4 : Hid (ValAt w4 w1.heap.size 7 0 ⟨acc.toArray⟩) := by rw [← hw4]; exact hVr.set2 _
          have HR4 : Hid (ValAt w4 W.heap.size 0 0 ⟨#[]⟩) := by rw [← hw4]; exact hRr.far (j := 2) HNE.out _
          have HB4 : Hid (Below W.heap.size W w4) := by rw [← hw4]; exact HBr.out.setCell (p := ⟨w1.heap.size, 2, none⟩) HB1.out.size _
          have HW4 := Lib.hid hw4
          clear hw4 hx0 hy1 hRr hVr
          go_upto_region 32 with (fail)
          rw [HW4.out]
          clear g0 g1 g2 f2 hcv hca hcb
          cases hm : mayB 7 0 ⟨acc.toArray⟩
          · have HM := Lib.hid hm
            clear hm
            have g0 := HV4.out.c0
            have g1 := HV4.out.c1
            have g2 := HV4.out.c2
            go_wp2_with fail
            refine (refMay_is _ hsx HM.out).mono ?_
            rintro e w5 ⟨rfl, hb5⟩
            have hV5 := HV4.out.next hb5 HV4.out.lt
            have hR5 := HR4.out.next hb5 HR4.out.lt
            have HB5 := Lib.hid (HB4.out.trans (hb5.mono HB4.out.size))
            clear g0 g1 g2 hb5
            have v0 := hV5.c0
            have v1 := hV5.c1
            have v2 := hV5.c2
            have g0 := hR5.c0
            have g1 := hR5.c1
            have g2 := hR5.c2
            have z0 := hR5.fz 0
            have z1 := hR5.fz 1
            have z2 := hR5.fz 2
            have HF := Lib.hid (((hR5.set0 0).set1 0).set2 ⟨#[]⟩)
            clear hV5 hR5
            go_wp2
            refine bodyPost_ret (v := .tuple #[valV 0 0 ⟨#[]⟩, .int .i64 0]) ?_ rfl ?_
            · rw [results_cell_tmp1 rfl]
              have h0 := HF.out.c0
              have h1 := HF.out.c1
              have h2 := HF.out.c2
              unfold valV
              go_simp
            · exact ⟨.inr ⟨(by first | (rw [hk]; exact oneR_txt_no (.inr (.inr rfl)) HTT.out HM.out) | exact oneR_txt_no (.inr (.inr rfl)) HTT.out HM.out), _, _, _, rfl⟩, ((HB5.out.setCell (p := ⟨W.heap.size, 0, none⟩) (Nat.le_refl _) _).setCell (p := ⟨W.heap.size, 1, none⟩) (Nat.le_refl _) _).setCell (p := ⟨W.heap.size, 2, none⟩) (Nat.le_refl _) _⟩
          · have HM := Lib.hid hm
            clear hm
            have g0 := HV4.out.c0
            have g1 := HV4.out.c1
            have g2 := HV4.out.c2
            go_wp2_with fail
            refine (refMay_is _ hsx HM.out).mono ?_
            rintro e w5 ⟨rfl, hb5⟩
            have hV5 := HV4.out.next hb5 HV4.out.lt
            have hR5 := HR4.out.next hb5 HR4.out.lt
            have HB5 := Lib.hid (HB4.out.trans (hb5.mono HB4.out.size))
            clear g0 g1 g2 hb5
            have v0 := hV5.c0
            have v1 := hV5.c1
            have v2 := hV5.c2
            have g0 := hR5.c0
            have g1 := hR5.c1
            have g2 := hR5.c2
            have z0 := hR5.fz 0
            have z1 := hR5.fz 1
            have z2 := hR5.fz 2
            have HF := Lib.hid (((hR5.set0 7).set1 0).set2 ⟨acc.toArray⟩)
            clear hV5 hR5
            go_wp2
            refine bodyPost_ret (v := .tuple #[valV 7 0 ⟨acc.toArray⟩, .int .i64 ((n : Int) + 2)]) ?_ rfl ?_
            · rw [results_cell_tmp1 rfl]
              have h0 := HF.out.c0
              have h1 := HF.out.c1
              have h2 := HF.out.c2
              unfold valV
              go_simp
            · exact ⟨(.inl ⟨_, _, acc, t, (by first | (rw [hk]; exact oneR_txt_yes (.inr (.inr rfl)) HTT.out HM.out) | exact oneR_txt_yes (.inr (.inr rfl)) HTT.out HM.out), (by rw [show (c :: d :: r).length - t.length = n + 2 by simp only [List.length_cons]; omega]; rfl)⟩), ((HB5.out.setCell (p := ⟨W.heap.size, 0, none⟩) (Nat.le_refl _) _).setCell (p := ⟨W.heap.size, 1, none⟩) (Nat.le_refl _) _).setCell (p := ⟨W.heap.size, 2, none⟩) (Nat.le_refl _) _⟩
        · have ey : ((y.toNat : Int) == 1) = false := by
            rw [beq_eq_false_iff_ne]
            exact fun e => hy1 (UInt8.toNat_inj.1 (by show y.toNat = 1; omega))
          by_cases hy2 : y = 255
          · have ey2 : ((y.toNat : Int) != 255) = false := by rw [hy2]; rfl
            have HT2 : Hid (txtR (d :: r) = onward (acc ++ [x]) (txtR t)) := by
              show _ = _
              rw [HT.out, txtR, if_pos hx0, if_neg hy1, if_pos hy2, hx0]
              unfold onward
              simp [Option.map_map, Function.comp_def]
            clear hx0 hy1 hy2
            go_wp2_with (at_builtin; refine wpList_append_own _ rfl _ _ 43 rfl w2.heap.size 5 i0 (.int .u8 0) 1 1 Try.underlying43 hi hz0 hz1 hz2 rfl (by decide) _ _ _ rfl (HO.out.alloc _) ⟨wr.heap.size, 0, none⟩ 1 1 (cellsL [x]) rfl rfl (fun j u h => cell_lit _ _ _ j u h) (cellsL_one _) (by omega) (by omega) (by simp; omega) ?_; intro v' w3 hown' hgrow _; have hca3 := ((below_own (HO.out.alloc (.cells #[.int .u8 (x.toNat : Int)] 5)) hgrow (by simp; omega)).cell (p := a.add n) (by rw [add_block]; exact HAW.out)).trans ((Below.refl wr.heap.size wr |>.alloc (Nat.le_refl _) (.cells #[.int .u8 (x.toNat : Int)] 5)).cell (p := a.add n) (by rw [add_block]; exact HAR.out) |>.trans hca))
            go_roundg t.length
            case measure => have := HG.out; simp only [List.length_cons] at this; omega
            case rel => exact ⟨n + 2, t, acc ++ [x], v', by go_num, rfl, (by show _ = _; rfl), by omega, by omega, (by show _ = _; have h9 := congrArg (List.drop 2) HD.out; rw [List.drop_drop] at h9; simpa using h9), HT2.out, by rw [List.length_append, List.length_singleton]; omega, (by rw [← cellsL_app] at hown'; show World.ownsRow _ _ _ _ _ _ _; simpa using hown'), (HB.out.alloc hsz _).trans (below_own (HO.out.alloc _) hgrow (by simp; omega)), by have q := hgrow.size; simp at q; omega⟩
          · have ey2 : ((y.toNat : Int) != 255) = true := by
              have : y.toNat ≠ 255 := fun e => hy2 (UInt8.toNat_inj.1 e)
              simp; omega
            have HN : Hid (txtR (d :: r) = none) := by
              show _ = _
              rw [HT.out, txtR, if_pos hx0, if_neg hy1, if_neg hy2]; rfl
            clear hx0 hy1 hy2
            have g0 := hRr.c0
            have g1 := hRr.c1
            have g2 := hRr.c2
            have z0 := hRr.fz 0
            have z1 := hRr.fz 1
            have z2 := hRr.fz 2
            have HF := Lib.hid (((hRr.set0 0).set1 0).set2 ⟨#[]⟩)
            go_wp2
            refine bodyPost_ret (v := .tuple #[valV 0 0 ⟨#[]⟩, .int .i64 0]) ?_ rfl ?_
            · rw [results_cell_tmp1 rfl]
              have h0 := HF.out.c0
              have h1 := HF.out.c1
              have h2 := HF.out.c2
              unfold valV
              go_simp
            · exact ⟨.inr ⟨(by first | (rw [hk]; exact oneR_txt_none (.inr (.inr rfl)) HN.out) | exact oneR_txt_none (.inr (.inr rfl)) HN.out), _, _, _, rfl⟩, ((HBr.out.setCell (p := ⟨W.heap.size, 0, none⟩) (Nat.le_refl _) _).setCell (p := ⟨W.heap.size, 1, none⟩) (Nat.le_refl _) _).setCell (p := ⟨W.heap.size, 2, none⟩) (Nat.le_refl _) _⟩
      · have ex : ((x.toNat : Int) == 0) = false := by
          rw [beq_eq_false_iff_ne]
          exact fun e => hx0 (UInt8.toNat_inj.1 (by show x.toNat = 0; omega))
        have HT2 : Hid (txtR (d :: r) = onward (acc ++ [x]) (txtR (y :: t))) := by
          show _ = _
          rw [HT.out, txtR, if_neg hx0]
          unfold onward
          simp [Option.map_map, Function.comp_def]
        clear hx0
        go_wp2_with (at_builtin; refine wpList_append_own _ rfl _ _ 43 rfl w2.heap.size 5 i0 (.int .u8 0) 1 1 Try.underlying43 hi hz0 hz1 hz2 rfl (by decide) _ _ _ rfl (HO.out.alloc _) ⟨wr.heap.size, 0, none⟩ 1 1 (cellsL [x]) rfl rfl (fun j u h => cell_lit _ _ _ j u h) (cellsL_one _) (by omega) (by omega) (by simp; omega) ?_; intro v' w3 hown' hgrow _; have hca3 := ((below_own (HO.out.alloc (.cells #[.int .u8 (x.toNat : Int)] 5)) hgrow (by simp; omega)).cell (p := a.add n) (by rw [add_block]; exact HAW.out)).trans ((Below.refl wr.heap.size wr |>.alloc (Nat.le_refl _) (.cells #[.int .u8 (x.toNat : Int)] 5)).cell (p := a.add n) (by rw [add_block]; exact HAR.out) |>.trans hca))
        go_roundg (t.length + 1)
        case measure => have := HG.out; simp only [List.length_cons] at this; omega
        case rel => exact ⟨n + 1, y :: t, acc ++ [x], v', by go_num, rfl, (by show _ = _; rfl), by simp only [List.length_cons]; omega, by omega, (by show _ = _; have h9 := congrArg (List.drop 1) HD.out; rw [List.drop_drop] at h9; simpa using h9), HT2.out, by rw [List.length_append, List.length_singleton, List.length_cons]; omega, (by rw [← cellsL_app] at hown'; show World.ownsRow _ _ _ _ _ _ _; simpa using hown'), (HB.out.alloc hsz _).trans (below_own (HO.out.alloc _) hgrow (by simp; omega)), by have q := hgrow.size; simp at q; omega⟩

set_option maxRecDepth 100000 in
set_option maxHeartbeats 2000000 in
theorem refOne_else (a : Addr) (cp : Nat) (c d : UInt8) (r : List UInt8) (W : World) (B : Nat) (hBW : B ≤ W.heap.size) (hs : SlB W B (some a) (c :: d :: r)) (_hlc : r.length + 1 + 1 ≤ cp) (_hc : cp ≤ maxLen) (_hl : r.length ≤ 5000) (h1 : c ≠ 1) (h2 : c ≠ 2) (h3 : c ≠ 3) (h4 : c ≠ 4) (h5 : c ≠ 5) (h6 : c ≠ 6) (h7 : c ≠ 7)  :
    Calls Try.prog 114 #[.slice (some a) (r.length + 1 + 1) cp] W (OneRd W (c :: d :: r)) := by
  have n1 : ((c.toNat : Int) == 1) = false := by
    rw [beq_eq_false_iff_ne]
    exact fun e => h1 (UInt8.toNat_inj.1 (by show c.toNat = 1; omega))
  have n2 : ((c.toNat : Int) == 2) = false := by
    rw [beq_eq_false_iff_ne]
    exact fun e => h2 (UInt8.toNat_inj.1 (by show c.toNat = 2; omega))
  have n3 : ((c.toNat : Int) == 3) = false := by
    rw [beq_eq_false_iff_ne]
    exact fun e => h3 (UInt8.toNat_inj.1 (by show c.toNat = 3; omega))
  have n4 : ((c.toNat : Int) == 4) = false := by
    rw [beq_eq_false_iff_ne]
    exact fun e => h4 (UInt8.toNat_inj.1 (by show c.toNat = 4; omega))
  have n5 : ((c.toNat : Int) == 5) = false := by
    rw [beq_eq_false_iff_ne]
    exact fun e => h5 (UInt8.toNat_inj.1 (by show c.toNat = 5; omega))
  have n6 : ((c.toNat : Int) == 6) = false := by
    rw [beq_eq_false_iff_ne]
    exact fun e => h6 (UInt8.toNat_inj.1 (by show c.toNat = 6; omega))
  have n7 : ((c.toNat : Int) == 7) = false := by
    rw [beq_eq_false_iff_ne]
    exact fun e => h7 (UInt8.toNat_inj.1 (by show c.toNat = 7; omega))
  have hal : a.block < W.heap.size := by
    obtain ⟨a', e, h, _⟩ := hs (by simp)
    injection e with e; subst e; omega
  have HCL : Hid (W.cell? a = some (.int .u8 c.toNat)) := by
    obtain ⟨a', e, _, h⟩ := hs (by simp)
    injection e with e; subst e
    have := h 0 c rfl
    rwa [add_zero'] at this
  have HDL : Hid (W.cell? (a.add 1) = some (.int .u8 d.toNat)) := by
    obtain ⟨a', e, _, h⟩ := hs (by simp)
    injection e with e; subst e
    exact h 1 d rfl
  have HS := Lib.hid hs
  clear hs
  obtain ⟨w1, hw1⟩ : ∃ w1, W.alloc (.cells #[.int .i64 0, .int .i64 0, .string ⟨#[]⟩] 24) = w1 := ⟨_, rfl⟩
  have HB1 : Hid (Below W.heap.size W w1) := by rw [← hw1]; exact (Below.refl _ _).alloc (Nat.le_refl _) _
  have HR1 : Hid (ValAt w1 W.heap.size 0 0 ⟨#[]⟩) := by rw [← hw1]; exact valAt_new W 0 0 ⟨#[]⟩
  have HNE : Hid (W.heap.size ≠ w1.heap.size) := by show _ ≠ _; rw [← hw1]; simp
  have HW1 := Lib.hid hw1
  clear hw1
  have hwk : IntKind.i64.wrap (c.toNat : Int) = (c.toNat : Int) := by have := c.toNat_lt; rw [IntKind.wrap_i64]; omega
  obtain ⟨w2, hw2⟩ : ∃ w2, w1.alloc (.cells #[.int .i64 (c.toNat : Int), .int .i64 0, .string ⟨#[]⟩] 24) = w2 := ⟨_, rfl⟩
  have HV2 : Hid (ValAt w2 w1.heap.size (c.toNat : Int) 0 ⟨#[]⟩) := by rw [← hw2]; exact valAt_new w1 (c.toNat : Int) 0 ⟨#[]⟩
  have HB2 : Hid (Below w1.heap.size w1 w2) := by rw [← hw2]; exact (Below.refl _ _).alloc (Nat.le_refl _) _
  have HB12 : Hid (Below W.heap.size W w2) := HB1.out.trans (HB2.out.mono HB1.out.size)
  have HW2 := Lib.hid hw2
  clear hw2
  have hR2 : Hid (ValAt w2 W.heap.size 0 0 ⟨#[]⟩) := HR1.out.next HB2.out HR1.out.lt
  go_enter Try.func114, Try.ntmps114
  go_upto_region 1 with (fail)
  rw [HW1.out]
  have q1 := (HB1.out.cell (p := a) hal).trans HCL.out
  go_upto_region 4 with (fail)
  rw [HW2.out]
  clear q1
  have k0 := HV2.out.c0
  have k1 := HV2.out.c1
  have k2 := HV2.out.c2
  have g0 := hR2.out.c0
  have g1 := hR2.out.c1
  have g2 := hR2.out.c2
  have z0 := hR2.out.fz 0
  have z1 := hR2.out.fz 1
  have z2 := hR2.out.fz 2
  have HF := Lib.hid (((hR2.out.set0 0).set1 0).set2 ⟨#[]⟩)
  go_wp2
  refine bodyPost_ret (v := .tuple #[valV 0 0 ⟨#[]⟩, .int .i64 0]) ?_ rfl ?_
  · rw [results_cell_tmp1 rfl]
    have h0 := HF.out.c0
    have h1 := HF.out.c1
    have h2 := HF.out.c2
    unfold valV
    go_simp
  · exact ⟨.inr ⟨oneR_else h1 h2 h3 h4 h5 h6 h7, _, _, _, rfl⟩, ((HB12.out.setCell (p := ⟨W.heap.size, 0, none⟩) (Nat.le_refl _) _).setCell (p := ⟨W.heap.size, 1, none⟩) (Nat.le_refl _) _).setCell (p := ⟨W.heap.size, 2, none⟩) (Nat.le_refl _) _⟩

set_option maxRecDepth 100000 in
set_option maxHeartbeats 1000000 in
theorem refOne_short (A : Option Addr) (cp : Nat) (l : List UInt8) (W : World) (hl : l.length < 2) :
    Calls Try.prog 114 #[.slice A l.length cp] W (OneRd W l) := by
  have HR1 := Lib.hid (valAt_new W 0 0 ⟨#[]⟩)
  have g0 := HR1.out.c0
  have g1 := HR1.out.c1
  have g2 := HR1.out.c2
  have z0 := HR1.out.fz 0
  have z1 := HR1.out.fz 1
  have z2 := HR1.out.fz 2
  have HF := Lib.hid (((HR1.out.set0 0).set1 0).set2 ⟨#[]⟩)
  have HN : Hid (oneR l = none) := by
    show _ = _
    match l, hl with
    | [], _ => rfl
    | [c], _ => exact oneR_one c
  have hli : (l.length : Int) < 2 := by omega
  go_enter Try.func114, Try.ntmps114
  go_wp2
  refine bodyPost_ret (v := .tuple #[valV 0 0 ⟨#[]⟩, .int .i64 0]) ?_ rfl ?_
  · rw [results_cell_tmp1 rfl]
    have h0 := HF.out.c0
    have h1 := HF.out.c1
    have h2 := HF.out.c2
    unfold valV
    go_simp
  · exact ⟨.inr ⟨HN.out, _, _, _, rfl⟩, (((Below.refl W.heap.size W).alloc (Nat.le_refl _) _))⟩

theorem refOne_any (A : Option Addr) (cp : Nat) (l : List UInt8) (W : World) (B : Nat) (hBW : B ≤ W.heap.size) (hs : SlB W B A l) (hlc : l.length ≤ cp) (hc : cp ≤ maxLen) (hl : l.length ≤ 5000) :
    Calls Try.prog 114 #[.slice A l.length cp] W (OneRd W l) := by
  match l, hs, hlc, hl with
  | [], _, _, _ => exact refOne_short A cp [] W (by simp)
  | [c], _, _, _ => exact refOne_short A cp [c] W (by simp)
  | c :: d :: r, hs, hlc, hl =>
    obtain ⟨a, rfl, _, _⟩ := hs (by simp)
    have hl' : r.length ≤ 5000 := by simp only [List.length_cons] at hl; omega
    by_cases h1 : c = 1; · exact refOne_1 a cp c d r W B hBW hs hlc hc hl' h1
    by_cases h2 : c = 2; · exact refOne_2 a cp c d r W B hBW hs hlc hc hl' h2
    by_cases h3 : c = 3; · exact refOne_3 a cp c d r W B hBW hs hlc hc hl' h3
    by_cases h4 : c = 4; · exact refOne_4 a cp c d r W B hBW hs hlc hc hl' h4
    by_cases h5 : c = 5; · exact refOne_5 a cp c d r W B hBW hs hlc hc hl' h5
    by_cases h6 : c = 6; · exact refOne_6 a cp c d r W B hBW hs hlc hc hl' h6
    by_cases h7 : c = 7; · exact refOne_7 a cp c d r W B hBW hs hlc hc hl' h7
    exact refOne_else a cp c d r W B hBW hs hlc hc hl' h1 h2 h3 h4 h5 h6 h7
end Go.Proofs.Ytefekkcmoambhaa
