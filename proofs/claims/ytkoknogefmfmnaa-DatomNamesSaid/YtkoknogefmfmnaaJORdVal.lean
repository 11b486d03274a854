/-
  CONTRACT: readValue (the program's).
-/
import Derived.Test.YtkoknogefmfmnaaJORdTxt
import Derived.Test.YtkoknogefmfmnaaJOKey
import Derived.Test.YtkoknogefmfmnaaJORefC
namespace Go.Proofs.Ytkoknogefmfmnaa
open Go.RowKit Go.Shelf

/-- a value as a whole -/
def valV (k n : Int) (s : ByteArray) : Value := .agg #[.int .i64 k, .int .i64 n, .string s]
/-- What readValue answers. -/
def ValRd (W : World) (B : Nat) (l : List UInt8) (e : Ending) (w' : World) : Prop :=
  ((∃ k n s t r, oneR l = some ((k, n, s), t) ∧ e = .returned (.tuple #[valV k n ⟨s.toArray⟩, r, .bool true]) ∧ Rest w' B r t) ∨
  (oneR l = none ∧ ∃ k n s r, e = .returned (.tuple #[valV k n s, r, .bool false]))) ∧ Below W.heap.size W w'

theorem ValAt.fz {W : World} {b : Nat} {k n : Int} {s : ByteArray} (h : ValAt W b k n s) (j : Nat) : W.frozen? ⟨b, j, none⟩ = false := by unfold ValAt at h; simp [World.frozen?, h]
theorem ValAt.set0 {W : World} {b : Nat} {k n : Int} {s : ByteArray} (h : ValAt W b k n s) (k' : Int) : ValAt (W.setCell ⟨b, 0, none⟩ (.int .i64 k')) b k' n s := by
  have e := setCell_eq_setRow W b 0 _ _ (0, 0) (.int .i64 k') h
  unfold ValAt
  rw [e, setRow_heap _ _ _ _ _ _ h]; rfl
theorem ValAt.set1 {W : World} {b : Nat} {k n : Int} {s : ByteArray} (h : ValAt W b k n s) (n' : Int) : ValAt (W.setCell ⟨b, 1, none⟩ (.int .i64 n')) b k n' s := by
  have e := setCell_eq_setRow W b 1 _ _ (0, 0) (.int .i64 n') h
  unfold ValAt
  rw [e, setRow_heap _ _ _ _ _ _ h]; rfl
theorem ValAt.set2 {W : World} {b : Nat} {k n : Int} {s : ByteArray} (h : ValAt W b k n s) (s' : ByteArray) : ValAt (W.setCell ⟨b, 2, none⟩ (.string s')) b k n s' := by
  have e := setCell_eq_setRow W b 2 _ _ (0, 0) (.string s') h
  unfold ValAt
  rw [e, setRow_heap _ _ _ _ _ _ h]; rfl
theorem ValAt.far {W : World} {b b' j : Nat} {k n : Int} {s : ByteArray} (h : ValAt W b k n s) (hne : b ≠ b') (u : Value) : ValAt (W.setCell ⟨b', j, none⟩ u) b k n s :=
  (Below.heap_setCell W ⟨b', j, none⟩ u b hne).trans h
theorem ValAt.dr {W : World} {b : Nat} {k n : Int} {s : ByteArray} (h : ValAt W b k n s) : ValAt W.drew b k n s := h
theorem results_cell_tmp2 {fn : Func} {p q r : Tmp} {ty : TypeId} (h : fn.results = #[.cell p ty, .tmp q, .tmp r]) (tmps : Array Value) (P : Program) (w : World) :
    (results fn tmps).run P w =
      ((asAddr (tmps.getD p undef)).run P w).andThen fun a w₁ => ((loadVar ty a).run P w₁).andThen fun v w₂ => .ok (.tuple #[v, tmps.getD q undef, tmps.getD r undef]) w₂ := by
  simp only [results, h]
  simp [Sem.run_bind, Result.andThen]

theorem txtR_len : ∀ {l s u : List UInt8}, txtR l = some (s, u) → s.length ≤ l.length
  | [], _, _, h => by cases h
  | [_], _, _, h => by cases h
  | c :: d :: r, s, u, h => by
    rw [txtR] at h
    by_cases hc : c = 0
    · rw [if_pos hc] at h
      by_cases h1 : d = 1
      · rw [if_pos h1] at h
        cases h
        simp
      · rw [if_neg h1] at h
        by_cases h2 : d = 255
        · rw [if_pos h2] at h
          cases hr : txtR r with
          | none => rw [hr] at h; cases h
          | some p =>
            obtain ⟨s', u'⟩ := p
            rw [hr] at h
            have := txtR_len hr
            cases h
            simp; omega
        · rw [if_neg h2] at h; cases h
    · rw [if_neg hc] at h
      cases hr : txtR (d :: r) with
      | none => rw [hr] at h; cases h
      | some p =>
        obtain ⟨s', u'⟩ := p
        rw [hr] at h
        have := txtR_len hr
        cases h
        simp at this ⊢; omega

set_option maxRecDepth 100000 in
set_option maxHeartbeats 2000000 in
theorem readValue_1 (a : Addr) (cp : Nat) (c : UInt8) (t : List UInt8) (W : World) (B : Nat) (hBW : B ≤ W.heap.size) (hs : SlB W B (some a) (c :: t)) (hlc : t.length + 1 ≤ cp) (hc : cp ≤ maxLen) (_hl : t.length ≤ 10000) (hk : c = 1) :
    Calls Try.prog 110 #[.slice (some a) (t.length + 1) cp] W (ValRd W B (c :: t)) := by
  unfold maxLen at hc
  have hck : (c.toNat : Int) = 1 := by rw [hk]; rfl
  have hal : a.block < W.heap.size := by
    obtain ⟨a', e, h, _⟩ := hs (by simp)
    injection e with e; subst e; omega
  have HCL : Hid (W.cell? a = some (.int .u8 c.toNat)) := by
    obtain ⟨a', e, _, h⟩ := hs (by simp)
    injection e with e; subst e
    have := h 0 c rfl
    rwa [add_zero'] at this
  have HS := Lib.hid hs
  clear hs
  obtain ⟨A2, hA2⟩ : ∃ A2, (if cp = 1 then some a else some ⟨a.block, a.off + 1, none⟩) = A2 := ⟨_, rfl⟩
  have HA2 : Hid (SlB W B A2 t ∧ (A2 = none → cp - 1 = 0)) := by
    have := HS.out.cut (show (c :: t).length ≤ cp from hlc) 1
    rw [hA2] at this
    exact ⟨this, fun h => by rw [← hA2] at h; split at h <;> cases h⟩
  go_enter Try.func110, Try.ntmps110
  go_wp2_with fail
  obtain ⟨w1, hw1⟩ : ∃ w1, W.alloc (.cells #[.int .i64 0, .int .i64 0, .string ⟨#[]⟩] 24) = w1 := ⟨_, rfl⟩
  have HB1 : Hid (Below W.heap.size W w1) := by rw [← hw1]; exact (Below.refl _ _).alloc (Nat.le_refl _) _
  have HR1 : Hid (ValAt w1 W.heap.size 0 0 ⟨#[]⟩) := by rw [← hw1]; exact valAt_new W 0 0 ⟨#[]⟩
  have HNE : Hid (W.heap.size ≠ w1.heap.size) := by show _ ≠ _; rw [← hw1]; simp
  rw [hw1]
  have hwk : IntKind.i64.wrap 1 = 1 := by decide
  have hn1 : ¬ ((t.length : Int) + 1 < 1) := by omega
  have hln : (0 : Int) < (t.length : Int) + 1 := by omega
  refine wp_region_held_drew (S := fun W' => Below w1.heap.size w1 W') (by kernel_rfl) ((Below.refl _ w1).drew) (fun hHeld => ?_)
  refine takeV 0 (some 12) ((.slice (some a) (t.length + 1) cp)) rfl rfl (by kernel_rfl) (by kernel_rfl) (by kernel_rfl) (fun _ _ _ h => h) (by rfl) (by (intro _w _hSw; (try dsimp only at _hSw); go_simp)) (by assumption) ?_
  simp only [Act.put, List.setIfInBounds_toArray, List.set_cons_zero, List.set_cons_succ]
  refine takeV 1 (some 13) ((.pointer (some a))) rfl rfl (by kernel_rfl) (by kernel_rfl) (by kernel_rfl) (fun _ _ _ h => h) (by rfl) (by (intro _w _hSw; (try dsimp only at _hSw); go_simp)) (by assumption) ?_
  simp only [Act.put, List.setIfInBounds_toArray, List.set_cons_zero, List.set_cons_succ]
  refine takeV 2 (some 14) ((.int .u8 c.toNat)) rfl rfl (by kernel_rfl) (by kernel_rfl) (by kernel_rfl) (fun _ _ _ h => h) (by rfl) (by (intro _w hSw; have q1 := (hSw.cell (p := a) (Nat.lt_of_lt_of_le hal HB1.out.size)).trans ((HB1.out.cell (p := a) hal).trans HCL.out); clear hSw; go_simp)) (by assumption) ?_
  simp only [Act.put, List.setIfInBounds_toArray, List.set_cons_zero, List.set_cons_succ]
  refine takeV 3 (some 15) ((.int .i64 1)) rfl rfl (by kernel_rfl) (by kernel_rfl) (by kernel_rfl) (fun _ _ _ h => h) (by rfl) (by (intro _w _hSw; (try dsimp only at _hSw); go_simp)) (by assumption) ?_
  simp only [Act.put, List.setIfInBounds_toArray, List.set_cons_zero, List.set_cons_succ]
  refine takeV 4 (some 16) ((.agg #[.int .i64 1, .int .i64 0, .string ⟨#[]⟩])) rfl rfl (by kernel_rfl) (by kernel_rfl) (by kernel_rfl) (fun _ _ _ h => h) (by rfl) (by (intro _w _hSw; (try dsimp only at _hSw); go_simp)) (by assumption) ?_
  simp only [Act.put, List.setIfInBounds_toArray, List.set_cons_zero, List.set_cons_succ]
  refine takeV 5 (some 17) ((.slice (some a) (t.length + 1) cp)) rfl rfl (by kernel_rfl) (by kernel_rfl) (by kernel_rfl) (fun _ _ _ h => h) (by rfl) (by (intro _w _hSw; (try dsimp only at _hSw); go_simp)) (by assumption) ?_
  simp only [Act.put, List.setIfInBounds_toArray, List.set_cons_zero, List.set_cons_succ]
  refine takeV 6 (some 18) ((.slice A2 t.length (cp - 1))) rfl rfl (by kernel_rfl) (by kernel_rfl) (by kernel_rfl) (fun _ _ _ h => h) (by rfl) (by (intro _w hSw; clear hHeld; clear hSw; go_simp)) (by assumption) ?_
  simp only [Act.put, List.setIfInBounds_toArray, List.set_cons_zero, List.set_cons_succ]
  refine callV 7 rfl (by kernel_rfl) (by rfl) (fun K hK => ?_)
  go_simp
  refine hK.out _ _ (below_dr ((Below.refl _ w1).alloc (Nat.le_refl _) _)) (fun hHeld2 => ?_)
  clear hK K hHeld
  try simp only [Act.put, List.setIfInBounds_toArray, List.set_cons_zero, List.set_cons_succ]
  refine callV 8 rfl (by kernel_rfl) (by rfl) (fun K hK => ?_)
  go_simp
  refine hK.out _ _ (below_dr ((Below.refl _ w1).alloc (Nat.le_refl _) _)) (fun hHeld3 => ?_)
  clear hK K hHeld2
  try simp only [Act.put, List.setIfInBounds_toArray, List.set_cons_zero, List.set_cons_succ]
  refine takeV 9 (some 6) ((.slice A2 t.length (cp - 1))) rfl rfl (by kernel_rfl) (by kernel_rfl) (by kernel_rfl) (fun _ _ _ h => h) (by rfl) (by (intro _w _hSw; (try dsimp only at _hSw); go_simp)) (by assumption) ?_
  simp only [Act.put, List.setIfInBounds_toArray, List.set_cons_zero, List.set_cons_succ]
  refine takeV 10 (some 7) ((.bool false)) rfl rfl (by kernel_rfl) (by kernel_rfl) (by kernel_rfl) (fun _ _ _ h => h) (by rfl) (by (intro _w _hSw; (try dsimp only at _hSw); go_simp)) (by assumption) ?_
  simp only [Act.put, List.setIfInBounds_toArray, List.set_cons_zero, List.set_cons_succ]
  refine wpAnyH_done (by kernel_rfl) ?_ _
  obtain ⟨w2, hw2⟩ : ∃ w2, (w1.alloc (.cells #[.int .i64 1, .int .i64 0, .string ⟨#[]⟩] 24)).drew = w2 := ⟨_, rfl⟩
  have HV2 : Hid (ValAt w2 w1.heap.size 1 0 ⟨#[]⟩) := by rw [← hw2]; exact valAt_new w1 1 0 ⟨#[]⟩
  have HB2 : Hid (Below w1.heap.size w1 w2) := by rw [← hw2]; exact hHeld3
  have HB12 : Hid (Below W.heap.size W w2) := HB1.out.trans (HB2.out.mono HB1.out.size)
  rw [hw2]
  clear hw2 hHeld3 hw1
  have hR2 : Hid (ValAt w2 W.heap.size 0 0 ⟨#[]⟩) := HR1.out.next HB2.out HR1.out.lt
  have k0 := HV2.out.c0
  have k1 := HV2.out.c1
  have k2 := HV2.out.c2
  go_wp2_with fail
  refine (readNumber_any A2 (cp - 1) t w2 B (Nat.le_trans hBW HB12.out.size) (HA2.out.1.next HB12.out hBW) (by omega) (by unfold maxLen; omega)).mono ?_
  rintro e w3 (⟨hT, ⟨r, rfl, hr⟩, hb⟩ | ⟨hT, rfl, hb⟩)
  · have HT := Lib.hid hT
    have hsx : (⟨#[]⟩ : ByteArray).size ≤ maxLen := by decide
    clear hT
    have hv3 := HV2.out.next hb HV2.out.lt
    have hr3 := hR2.out.next hb hR2.out.lt
    have f2 := hv3.fz 1
    have g0 := hv3.c0
    have g1 := hv3.c1
    have g2 := hv3.c2
    have HV4 := Lib.hid (hv3.set1 (numR t))
    have HR4 := Lib.hid (hr3.far (j := 1) HNE.out (.int .i64 (numR t)))
    clear k0 k1 k2
    go_wp2_with fail
    obtain ⟨w4, hw4⟩ : ∃ w4, w3.setCell ⟨w1.heap.size, 1, none⟩ (.int .i64 (numR t)) = w4 := ⟨_, rfl⟩
    have hb3 := HB12.out.trans (hb.mono HB12.out.size)
    have HB4 : Hid (Below W.heap.size W w4) := by
      rw [← hw4]
      exact hb3.setCell (p := ⟨w1.heap.size, 1, none⟩) HB1.out.size _
    have hr4 : Rest w4.drew B r (t.drop 8) := by
      rw [← hw4]
      obtain ⟨X, x, ex, hx, h1, h2⟩ := hr.next ((Below.refl W.heap.size _).setCell (p := ⟨w1.heap.size, 1, none⟩) HB1.out.size (.int .i64 (numR t))) hBW
      exact ⟨X, x, ex, hx.next (below_dr (Below.refl W.heap.size _)) hBW, h1, h2⟩
    rw [hw4] at HV4 HR4
    rw [hw4]
    clear hw4 f2 g0 g1 g2 hv3 hr3 hb3 hb
    cases hm : mayB 1 (numR t) ⟨#[]⟩
    · have HM := Lib.hid hm
      clear hm
      refine wp_region_held_drew (S := fun W' => ValAt W' w1.heap.size 1 (numR t) ⟨#[]⟩) (by kernel_rfl) HV4.out.dr (fun hHeld => ?_)
      refine takeV 0 (some 52) ((.agg #[.int .i64 1, .int .i64 (numR t), .string ⟨#[]⟩])) rfl rfl (by kernel_rfl) (by kernel_rfl) (by kernel_rfl) (fun _ _ _ h => h) (by rfl) (by (intro _w hSw; have q0 := ValAt.c0 hSw; have q1 := ValAt.c1 hSw; have q2 := ValAt.c2 hSw; clear hSw; go_simp)) (by assumption) ?_
      simp only [Act.put, List.setIfInBounds_toArray, List.set_cons_zero, List.set_cons_succ]
      refine takeV 1 (some 53) ((r)) rfl rfl (by kernel_rfl) (by kernel_rfl) (by kernel_rfl) (fun _ _ _ h => h) (by rfl) (by (intro _w _hSw; (try dsimp only at _hSw); go_simp)) (by assumption) ?_
      simp only [Act.put, List.setIfInBounds_toArray, List.set_cons_zero, List.set_cons_succ]
      refine takeV 2 (some 54) ((.bool true)) rfl rfl (by kernel_rfl) (by kernel_rfl) (by kernel_rfl) (fun _ _ _ h => h) (by rfl) (by (intro _w _hSw; (try dsimp only at _hSw); go_simp)) (by assumption) ?_
      simp only [Act.put, List.setIfInBounds_toArray, List.set_cons_zero, List.set_cons_succ]
      refine takeV 3 (some 55) ((.bool true)) rfl rfl (by kernel_rfl) (by kernel_rfl) (by kernel_rfl) (fun _ _ _ h => h) (by rfl) (by (intro _w _hSw; (try dsimp only at _hSw); go_simp)) (by assumption) ?_
      simp only [Act.put, List.setIfInBounds_toArray, List.set_cons_zero, List.set_cons_succ]
      refine takeV 4 (some 56) ((.agg #[.int .i64 1, .int .i64 (numR t), .string ⟨#[]⟩])) rfl rfl (by kernel_rfl) (by kernel_rfl) (by kernel_rfl) (fun _ _ _ h => h) (by rfl) (by (intro _w hSw; have q0 := ValAt.c0 hSw; have q1 := ValAt.c1 hSw; have q2 := ValAt.c2 hSw; clear hSw; go_simp)) (by assumption) ?_
      simp only [Act.put, List.setIfInBounds_toArray, List.set_cons_zero, List.set_cons_succ]
      refine callV 5 rfl (by kernel_rfl) (by rfl) (fun K hK => ?_)
      go_simp
      go_at_call 61
      refine (check_no _ hsx HM.out).mono ?_
      rintro e w5 ⟨rfl, hb5⟩
      have hR5 := HR4.out.dr.next hb5 HR4.out.dr.lt
      have HX5 : Hid True := trivial
      have HB5 := Lib.hid ((below_dr HB4.out).trans (hb5.mono HB4.out.size))
      refine hK.out _ _ (ValAt.next hHeld hb5 (ValAt.lt hHeld)) (fun hHeld5 => ?_)
      clear hK K hHeld hb5
      try simp only [Act.put, List.setIfInBounds_toArray, List.set_cons_zero, List.set_cons_succ]
      refine takeV 6 (some 58) ((.bool false)) rfl rfl (by kernel_rfl) (by kernel_rfl) (by kernel_rfl) (fun _ _ _ h => h) (by rfl) (by (intro _w _hSw; (try dsimp only at _hSw); go_simp)) (by assumption) ?_
      simp only [Act.put, List.setIfInBounds_toArray, List.set_cons_zero, List.set_cons_succ]
      refine takeV 7 (some 59) ((.bool false)) rfl rfl (by kernel_rfl) (by kernel_rfl) (by kernel_rfl) (fun _ _ _ h => h) (by rfl) (by (intro _w _hSw; (try dsimp only at _hSw); go_simp)) (by assumption) ?_
      simp only [Act.put, List.setIfInBounds_toArray, List.set_cons_zero, List.set_cons_succ]
      have g0 := hR5.c0
      have g1 := hR5.c1
      have g2 := hR5.c2
      have z0 := hR5.fz 0
      have z1 := hR5.fz 1
      have z2 := hR5.fz 2
      have hF := ((hR5.set0 1).set1 (numR t)).set2 ⟨#[]⟩
      have HF := Lib.hid hF
      refine callV 8 rfl (by kernel_rfl) (by rfl) (fun K hK => ?_)
      go_simp
      refine hK.out _ _ (ValAt.far (ValAt.far (ValAt.far hHeld5 HNE.out.symm _) HNE.out.symm _) HNE.out.symm _) (fun hHeld6 => ?_)
      clear hK K g0 g1 g2 z0 z1 z2 hR5 hF
      try simp only [Act.put, List.setIfInBounds_toArray, List.set_cons_zero, List.set_cons_succ]
      refine takeV 9 (some 3) ((r)) rfl rfl (by kernel_rfl) (by kernel_rfl) (by kernel_rfl) (fun _ _ _ h => h) (by rfl) (by (intro _w _hSw; (try dsimp only at _hSw); go_simp)) (by assumption) ?_
      simp only [Act.put, List.setIfInBounds_toArray, List.set_cons_zero, List.set_cons_succ]
      refine takeV 10 (some 4) ((.bool false)) rfl rfl (by kernel_rfl) (by kernel_rfl) (by kernel_rfl) (fun _ _ _ h => h) (by rfl) (by (intro _w _hSw; (try dsimp only at _hSw); go_simp)) (by assumption) ?_
      simp only [Act.put, List.setIfInBounds_toArray, List.set_cons_zero, List.set_cons_succ]
      refine wpAnyH_done (by kernel_rfl) ?_ _
      have g0 := HF.out.c0
      have g1 := HF.out.c1
      have g2 := HF.out.c2
      go_wp2
      refine bodyPost_ret (v := .tuple #[valV 1 (numR t) ⟨#[]⟩, r, .bool false]) ?_ rfl ?_
      · rw [results_cell_tmp2 rfl]
        unfold valV
        go_simp
      · refine ⟨.inr ⟨(by first | (rw [hk]; exact oneR_num_no (.inl rfl) HM.out) | exact oneR_num_no (.inl rfl) HM.out), _, _, _, _, rfl⟩, ((HB5.out.setCell (p := ⟨W.heap.size, 0, none⟩) (Nat.le_refl _) _).setCell (p := ⟨W.heap.size, 1, none⟩) (Nat.le_refl _) _).setCell (p := ⟨W.heap.size, 2, none⟩) (Nat.le_refl _) _⟩
    · have HM := Lib.hid hm
      clear hm
      refine wp_region_held_drew (S := fun W' => ValAt W' w1.heap.size 1 (numR t) ⟨#[]⟩) (by kernel_rfl) HV4.out.dr (fun hHeld => ?_)
      refine takeV 0 (some 52) ((.agg #[.int .i64 1, .int .i64 (numR t), .string ⟨#[]⟩])) rfl rfl (by kernel_rfl) (by kernel_rfl) (by kernel_rfl) (fun _ _ _ h => h) (by rfl) (by (intro _w hSw; have q0 := ValAt.c0 hSw; have q1 := ValAt.c1 hSw; have q2 := ValAt.c2 hSw; clear hSw; go_simp)) (by assumption) ?_
      simp only [Act.put, List.setIfInBounds_toArray, List.set_cons_zero, List.set_cons_succ]
      refine takeV 1 (some 53) ((r)) rfl rfl (by kernel_rfl) (by kernel_rfl) (by kernel_rfl) (fun _ _ _ h => h) (by rfl) (by (intro _w _hSw; (try dsimp only at _hSw); go_simp)) (by assumption) ?_
      simp only [Act.put, List.setIfInBounds_toArray, List.set_cons_zero, List.set_cons_succ]
      refine takeV 2 (some 54) ((.bool true)) rfl rfl (by kernel_rfl) (by kernel_rfl) (by kernel_rfl) (fun _ _ _ h => h) (by rfl) (by (intro _w _hSw; (try dsimp only at _hSw); go_simp)) (by assumption) ?_
      simp only [Act.put, List.setIfInBounds_toArray, List.set_cons_zero, List.set_cons_succ]
      refine takeV 3 (some 55) ((.bool true)) rfl rfl (by kernel_rfl) (by kernel_rfl) (by kernel_rfl) (fun _ _ _ h => h) (by rfl) (by (intro _w _hSw; (try dsimp only at _hSw); go_simp)) (by assumption) ?_
      simp only [Act.put, List.setIfInBounds_toArray, List.set_cons_zero, List.set_cons_succ]
      refine takeV 4 (some 56) ((.agg #[.int .i64 1, .int .i64 (numR t), .string ⟨#[]⟩])) rfl rfl (by kernel_rfl) (by kernel_rfl) (by kernel_rfl) (fun _ _ _ h => h) (by rfl) (by (intro _w hSw; have q0 := ValAt.c0 hSw; have q1 := ValAt.c1 hSw; have q2 := ValAt.c2 hSw; clear hSw; go_simp)) (by assumption) ?_
      simp only [Act.put, List.setIfInBounds_toArray, List.set_cons_zero, List.set_cons_succ]
      refine callV 5 rfl (by kernel_rfl) (by rfl) (fun K hK => ?_)
      go_simp
      go_at_call 61
      refine (check_yes _ hsx HM.out).mono ?_
      rintro e w5 ⟨rfl, hb5⟩
      have hR5 := HR4.out.dr.next hb5 HR4.out.dr.lt
      have HX5 := Lib.hid (hr4.next (hb5.mono HB4.out.size) hBW)
      have HB5 := Lib.hid ((below_dr HB4.out).trans (hb5.mono HB4.out.size))
      refine hK.out _ _ (ValAt.next hHeld hb5 (ValAt.lt hHeld)) (fun hHeld5 => ?_)
      clear hK K hHeld hb5
      try simp only [Act.put, List.setIfInBounds_toArray, List.set_cons_zero, List.set_cons_succ]
      refine takeV 6 (some 58) ((.bool true)) rfl rfl (by kernel_rfl) (by kernel_rfl) (by kernel_rfl) (fun _ _ _ h => h) (by rfl) (by (intro _w _hSw; (try dsimp only at _hSw); go_simp)) (by assumption) ?_
      simp only [Act.put, List.setIfInBounds_toArray, List.set_cons_zero, List.set_cons_succ]
      refine takeV 7 (some 59) ((.bool true)) rfl rfl (by kernel_rfl) (by kernel_rfl) (by kernel_rfl) (fun _ _ _ h => h) (by rfl) (by (intro _w _hSw; (try dsimp only at _hSw); go_simp)) (by assumption) ?_
      simp only [Act.put, List.setIfInBounds_toArray, List.set_cons_zero, List.set_cons_succ]
      have g0 := hR5.c0
      have g1 := hR5.c1
      have g2 := hR5.c2
      have z0 := hR5.fz 0
      have z1 := hR5.fz 1
      have z2 := hR5.fz 2
      have hF := ((hR5.set0 1).set1 (numR t)).set2 ⟨#[]⟩
      have HF := Lib.hid hF
      refine callV 8 rfl (by kernel_rfl) (by rfl) (fun K hK => ?_)
      go_simp
      refine hK.out _ _ (ValAt.far (ValAt.far (ValAt.far hHeld5 HNE.out.symm _) HNE.out.symm _) HNE.out.symm _) (fun hHeld6 => ?_)
      clear hK K g0 g1 g2 z0 z1 z2 hR5 hF
      try simp only [Act.put, List.setIfInBounds_toArray, List.set_cons_zero, List.set_cons_succ]
      refine takeV 9 (some 3) ((r)) rfl rfl (by kernel_rfl) (by kernel_rfl) (by kernel_rfl) (fun _ _ _ h => h) (by rfl) (by (intro _w _hSw; (try dsimp only at _hSw); go_simp)) (by assumption) ?_
      simp only [Act.put, List.setIfInBounds_toArray, List.set_cons_zero, List.set_cons_succ]
      refine takeV 10 (some 4) ((.bool true)) rfl rfl (by kernel_rfl) (by kernel_rfl) (by kernel_rfl) (fun _ _ _ h => h) (by rfl) (by (intro _w _hSw; (try dsimp only at _hSw); go_simp)) (by assumption) ?_
      simp only [Act.put, List.setIfInBounds_toArray, List.set_cons_zero, List.set_cons_succ]
      refine wpAnyH_done (by kernel_rfl) ?_ _
      have g0 := HF.out.c0
      have g1 := HF.out.c1
      have g2 := HF.out.c2
      go_wp2
      refine bodyPost_ret (v := .tuple #[valV 1 (numR t) ⟨#[]⟩, r, .bool true]) ?_ rfl ?_
      · rw [results_cell_tmp2 rfl]
        unfold valV
        go_simp
      · refine ⟨.inl ⟨_, _, [], _, r, (by first | (rw [hk]; exact oneR_num_yes (.inl rfl) HT.out HM.out) | exact oneR_num_yes (.inl rfl) HT.out HM.out), rfl, ?_⟩, ((HB5.out.setCell (p := ⟨W.heap.size, 0, none⟩) (Nat.le_refl _) _).setCell (p := ⟨W.heap.size, 1, none⟩) (Nat.le_refl _) _).setCell (p := ⟨W.heap.size, 2, none⟩) (Nat.le_refl _) _⟩
        exact ((HX5.out.next ((Below.refl W.heap.size _).setCell (p := ⟨W.heap.size, 0, none⟩) (Nat.le_refl _) _) hBW).next ((Below.refl W.heap.size _).setCell (p := ⟨W.heap.size, 1, none⟩) (Nat.le_refl _) _) hBW).next ((Below.refl W.heap.size _).setCell (p := ⟨W.heap.size, 2, none⟩) (Nat.le_refl _) _) hBW
  · have HT := Lib.hid hT
    clear hT
    have hv3 := HV2.out.next hb HV2.out.lt
    have hr3 := hR2.out.next hb hR2.out.lt
    have f2 := hv3.fz 1
    have g0 := hv3.c0
    have g1 := hv3.c1
    have g2 := hv3.c2
    have HV4 := Lib.hid (hv3.set1 0)
    have HR4 := Lib.hid (hr3.far (j := 1) HNE.out (.int .i64 0))
    clear k0 k1 k2
    go_wp2_with fail
    obtain ⟨w4, hw4⟩ : ∃ w4, w3.setCell ⟨w1.heap.size, 1, none⟩ (.int .i64 0) = w4 := ⟨_, rfl⟩
    have hb3 := HB12.out.trans (hb.mono HB12.out.size)
    have HB4 : Hid (Below W.heap.size W w4) := by
      rw [← hw4]
      exact hb3.setCell (p := ⟨w1.heap.size, 1, none⟩) HB1.out.size _
    rw [hw4] at HV4 HR4
    rw [hw4]
    clear hw4 f2 g0 g1 g2 hv3 hr3 hb3 hb
    refine wp_region_held_drew (S := fun W' => ValAt W' w1.heap.size 1 0 ⟨#[]⟩) (by kernel_rfl) HV4.out.dr (fun hHeld => ?_)
    refine takeV 0 (some 52) ((.agg #[.int .i64 1, .int .i64 0, .string ⟨#[]⟩])) rfl rfl (by kernel_rfl) (by kernel_rfl) (by kernel_rfl) (fun _ _ _ h => h) (by rfl) (by (intro _w hSw; have q0 := ValAt.c0 hSw; have q1 := ValAt.c1 hSw; have q2 := ValAt.c2 hSw; clear hSw; go_simp)) (by assumption) ?_
    simp only [Act.put, List.setIfInBounds_toArray, List.set_cons_zero, List.set_cons_succ]
    refine takeV 1 (some 53) ((.slice none 0 0)) rfl rfl (by kernel_rfl) (by kernel_rfl) (by kernel_rfl) (fun _ _ _ h => h) (by rfl) (by (intro _w _hSw; (try dsimp only at _hSw); go_simp)) (by assumption) ?_
    simp only [Act.put, List.setIfInBounds_toArray, List.set_cons_zero, List.set_cons_succ]
    refine takeV 2 (some 54) ((.bool false)) rfl rfl (by kernel_rfl) (by kernel_rfl) (by kernel_rfl) (fun _ _ _ h => h) (by rfl) (by (intro _w _hSw; (try dsimp only at _hSw); go_simp)) (by assumption) ?_
    simp only [Act.put, List.setIfInBounds_toArray, List.set_cons_zero, List.set_cons_succ]
    refine takeV 3 (some 55) ((.bool false)) rfl rfl (by kernel_rfl) (by kernel_rfl) (by kernel_rfl) (fun _ _ _ h => h) (by rfl) (by (intro _w _hSw; (try dsimp only at _hSw); go_simp)) (by assumption) ?_
    simp only [Act.put, List.setIfInBounds_toArray, List.set_cons_zero, List.set_cons_succ]
    have hHeld5 := HV4.out
    have hR5 := HR4.out
    have HB5 := HB4
    refine skipV 4 (some 56) rfl rfl (by kernel_rfl) (by kernel_rfl) (by kernel_rfl) (fun _ _ _ h => h) (by rfl) (by assumption) ?_
    simp only [Act.put, List.setIfInBounds_toArray, List.set_cons_zero, List.set_cons_succ]
    refine skipV 5 (some 57) rfl rfl (by kernel_rfl) (by kernel_rfl) (by kernel_rfl) (fun _ _ _ h => h) (by rfl) (by assumption) ?_
    simp only [Act.put, List.setIfInBounds_toArray, List.set_cons_zero, List.set_cons_succ]
    refine skipV 6 (some 58) rfl rfl (by kernel_rfl) (by kernel_rfl) (by kernel_rfl) (fun _ _ _ h => h) (by rfl) (by assumption) ?_
    simp only [Act.put, List.setIfInBounds_toArray, List.set_cons_zero, List.set_cons_succ]
    refine takeV 7 (some 59) ((.bool false)) rfl rfl (by kernel_rfl) (by kernel_rfl) (by kernel_rfl) (fun _ _ _ h => h) (by rfl) (by (intro _w _hSw; (try dsimp only at _hSw); go_simp)) (by assumption) ?_
    simp only [Act.put, List.setIfInBounds_toArray, List.set_cons_zero, List.set_cons_succ]
    have g0 := hR5.c0
    have g1 := hR5.c1
    have g2 := hR5.c2
    have z0 := hR5.fz 0
    have z1 := hR5.fz 1
    have z2 := hR5.fz 2
    have hF := ((hR5.set0 1).set1 0).set2 ⟨#[]⟩
    have HF := Lib.hid hF
    refine callV 8 rfl (by kernel_rfl) (by rfl) (fun K hK => ?_)
    go_simp
    refine hK.out _ _ (ValAt.dr (ValAt.far (ValAt.far (ValAt.far hHeld5 HNE.out.symm _) HNE.out.symm _) HNE.out.symm _)) (fun hHeld6 => ?_)
    clear hK K g0 g1 g2 z0 z1 z2 hR5 hF
    try simp only [Act.put, List.setIfInBounds_toArray, List.set_cons_zero, List.set_cons_succ]
    refine takeV 9 (some 3) ((.slice none 0 0)) rfl rfl (by kernel_rfl) (by kernel_rfl) (by kernel_rfl) (fun _ _ _ h => h) (by rfl) (by (intro _w _hSw; (try dsimp only at _hSw); go_simp)) (by assumption) ?_
    simp only [Act.put, List.setIfInBounds_toArray, List.set_cons_zero, List.set_cons_succ]
    refine takeV 10 (some 4) ((.bool false)) rfl rfl (by kernel_rfl) (by kernel_rfl) (by kernel_rfl) (fun _ _ _ h => h) (by rfl) (by (intro _w _hSw; (try dsimp only at _hSw); go_simp)) (by assumption) ?_
    simp only [Act.put, List.setIfInBounds_toArray, List.set_cons_zero, List.set_cons_succ]
    refine wpAnyH_done (by kernel_rfl) ?_ _
    have g0 := HF.out.c0
    have g1 := HF.out.c1
    have g2 := HF.out.c2
    go_wp2
    refine bodyPost_ret (v := .tuple #[valV 1 0 ⟨#[]⟩, .slice none 0 0, .bool false]) ?_ rfl ?_
    · rw [results_cell_tmp2 rfl]
      unfold valV
      go_simp
    · refine ⟨.inr ⟨(by first | (rw [hk]; exact oneR_num_none (.inl rfl) HT.out) | exact oneR_num_none (.inl rfl) HT.out), _, _, _, _, rfl⟩, below_dr (((HB5.out.setCell (p := ⟨W.heap.size, 0, none⟩) (Nat.le_refl _) _).setCell (p := ⟨W.heap.size, 1, none⟩) (Nat.le_refl _) _).setCell (p := ⟨W.heap.size, 2, none⟩) (Nat.le_refl _) _)⟩

set_option maxRecDepth 100000 in
set_option maxHeartbeats 2000000 in
theorem readValue_2 (a : Addr) (cp : Nat) (c : UInt8) (t : List UInt8) (W : World) (B : Nat) (hBW : B ≤ W.heap.size) (hs : SlB W B (some a) (c :: t)) (hlc : t.length + 1 ≤ cp) (hc : cp ≤ maxLen) (_hl : t.length ≤ 10000) (hk : c = 2) :
    Calls Try.prog 110 #[.slice (some a) (t.length + 1) cp] W (ValRd W B (c :: t)) := by
  unfold maxLen at hc
  have hck : (c.toNat : Int) = 2 := by rw [hk]; rfl
  have hal : a.block < W.heap.size := by
    obtain ⟨a', e, h, _⟩ := hs (by simp)
    injection e with e; subst e; omega
  have HCL : Hid (W.cell? a = some (.int .u8 c.toNat)) := by
    obtain ⟨a', e, _, h⟩ := hs (by simp)
    injection e with e; subst e
    have := h 0 c rfl
    rwa [add_zero'] at this
  have HS := Lib.hid hs
  clear hs
  obtain ⟨A2, hA2⟩ : ∃ A2, (if cp = 1 then some a else some ⟨a.block, a.off + 1, none⟩) = A2 := ⟨_, rfl⟩
  have HA2 : Hid (SlB W B A2 t ∧ (A2 = none → cp - 1 = 0)) := by
    have := HS.out.cut (show (c :: t).length ≤ cp from hlc) 1
    rw [hA2] at this
    exact ⟨this, fun h => by rw [← hA2] at h; split at h <;> cases h⟩
  go_enter Try.func110, Try.ntmps110
  go_wp2_with fail
  obtain ⟨w1, hw1⟩ : ∃ w1, W.alloc (.cells #[.int .i64 0, .int .i64 0, .string ⟨#[]⟩] 24) = w1 := ⟨_, rfl⟩
  have HB1 : Hid (Below W.heap.size W w1) := by rw [← hw1]; exact (Below.refl _ _).alloc (Nat.le_refl _) _
  have HR1 : Hid (ValAt w1 W.heap.size 0 0 ⟨#[]⟩) := by rw [← hw1]; exact valAt_new W 0 0 ⟨#[]⟩
  have HNE : Hid (W.heap.size ≠ w1.heap.size) := by show _ ≠ _; rw [← hw1]; simp
  rw [hw1]
  have hwk : IntKind.i64.wrap 2 = 2 := by decide
  have hn1 : ¬ ((t.length : Int) + 1 < 1) := by omega
  have hln : (0 : Int) < (t.length : Int) + 1 := by omega
  refine wp_region_held_drew (S := fun W' => Below w1.heap.size w1 W') (by kernel_rfl) ((Below.refl _ w1).drew) (fun hHeld => ?_)
  refine takeV 0 (some 12) ((.slice (some a) (t.length + 1) cp)) rfl rfl (by kernel_rfl) (by kernel_rfl) (by kernel_rfl) (fun _ _ _ h => h) (by rfl) (by (intro _w _hSw; (try dsimp only at _hSw); go_simp)) (by assumption) ?_
  simp only [Act.put, List.setIfInBounds_toArray, List.set_cons_zero, List.set_cons_succ]
  refine takeV 1 (some 13) ((.pointer (some a))) rfl rfl (by kernel_rfl) (by kernel_rfl) (by kernel_rfl) (fun _ _ _ h => h) (by rfl) (by (intro _w _hSw; (try dsimp only at _hSw); go_simp)) (by assumption) ?_
  simp only [Act.put, List.setIfInBounds_toArray, List.set_cons_zero, List.set_cons_succ]
  refine takeV 2 (some 14) ((.int .u8 c.toNat)) rfl rfl (by kernel_rfl) (by kernel_rfl) (by kernel_rfl) (fun _ _ _ h => h) (by rfl) (by (intro _w hSw; have q1 := (hSw.cell (p := a) (Nat.lt_of_lt_of_le hal HB1.out.size)).trans ((HB1.out.cell (p := a) hal).trans HCL.out); clear hSw; go_simp)) (by assumption) ?_
  simp only [Act.put, List.setIfInBounds_toArray, List.set_cons_zero, List.set_cons_succ]
  refine takeV 3 (some 15) ((.int .i64 2)) rfl rfl (by kernel_rfl) (by kernel_rfl) (by kernel_rfl) (fun _ _ _ h => h) (by rfl) (by (intro _w _hSw; (try dsimp only at _hSw); go_simp)) (by assumption) ?_
  simp only [Act.put, List.setIfInBounds_toArray, List.set_cons_zero, List.set_cons_succ]
  refine takeV 4 (some 16) ((.agg #[.int .i64 2, .int .i64 0, .string ⟨#[]⟩])) rfl rfl (by kernel_rfl) (by kernel_rfl) (by kernel_rfl) (fun _ _ _ h => h) (by rfl) (by (intro _w _hSw; (try dsimp only at _hSw); go_simp)) (by assumption) ?_
  simp only [Act.put, List.setIfInBounds_toArray, List.set_cons_zero, List.set_cons_succ]
  refine takeV 5 (some 17) ((.slice (some a) (t.length + 1) cp)) rfl rfl (by kernel_rfl) (by kernel_rfl) (by kernel_rfl) (fun _ _ _ h => h) (by rfl) (by (intro _w _hSw; (try dsimp only at _hSw); go_simp)) (by assumption) ?_
  simp only [Act.put, List.setIfInBounds_toArray, List.set_cons_zero, List.set_cons_succ]
  refine takeV 6 (some 18) ((.slice A2 t.length (cp - 1))) rfl rfl (by kernel_rfl) (by kernel_rfl) (by kernel_rfl) (fun _ _ _ h => h) (by rfl) (by (intro _w hSw; clear hHeld; clear hSw; go_simp)) (by assumption) ?_
  simp only [Act.put, List.setIfInBounds_toArray, List.set_cons_zero, List.set_cons_succ]
  refine callV 7 rfl (by kernel_rfl) (by rfl) (fun K hK => ?_)
  go_simp
  refine hK.out _ _ (below_dr ((Below.refl _ w1).alloc (Nat.le_refl _) _)) (fun hHeld2 => ?_)
  clear hK K hHeld
  try simp only [Act.put, List.setIfInBounds_toArray, List.set_cons_zero, List.set_cons_succ]
  refine callV 8 rfl (by kernel_rfl) (by rfl) (fun K hK => ?_)
  go_simp
  refine hK.out _ _ (below_dr ((Below.refl _ w1).alloc (Nat.le_refl _) _)) (fun hHeld3 => ?_)
  clear hK K hHeld2
  try simp only [Act.put, List.setIfInBounds_toArray, List.set_cons_zero, List.set_cons_succ]
  refine takeV 9 (some 6) ((.slice A2 t.length (cp - 1))) rfl rfl (by kernel_rfl) (by kernel_rfl) (by kernel_rfl) (fun _ _ _ h => h) (by rfl) (by (intro _w _hSw; (try dsimp only at _hSw); go_simp)) (by assumption) ?_
  simp only [Act.put, List.setIfInBounds_toArray, List.set_cons_zero, List.set_cons_succ]
  refine takeV 10 (some 7) ((.bool false)) rfl rfl (by kernel_rfl) (by kernel_rfl) (by kernel_rfl) (fun _ _ _ h => h) (by rfl) (by (intro _w _hSw; (try dsimp only at _hSw); go_simp)) (by assumption) ?_
  simp only [Act.put, List.setIfInBounds_toArray, List.set_cons_zero, List.set_cons_succ]
  refine wpAnyH_done (by kernel_rfl) ?_ _
  obtain ⟨w2, hw2⟩ : ∃ w2, (w1.alloc (.cells #[.int .i64 2, .int .i64 0, .string ⟨#[]⟩] 24)).drew = w2 := ⟨_, rfl⟩
  have HV2 : Hid (ValAt w2 w1.heap.size 2 0 ⟨#[]⟩) := by rw [← hw2]; exact valAt_new w1 2 0 ⟨#[]⟩
  have HB2 : Hid (Below w1.heap.size w1 w2) := by rw [← hw2]; exact hHeld3
  have HB12 : Hid (Below W.heap.size W w2) := HB1.out.trans (HB2.out.mono HB1.out.size)
  rw [hw2]
  clear hw2 hHeld3 hw1
  have hR2 : Hid (ValAt w2 W.heap.size 0 0 ⟨#[]⟩) := HR1.out.next HB2.out HR1.out.lt
  have k0 := HV2.out.c0
  have k1 := HV2.out.c1
  have k2 := HV2.out.c2
  go_wp2_with fail
  refine (readByte_any A2 (cp - 1) t w2 B (Nat.le_trans hBW HB12.out.size) (HA2.out.1.next HB12.out hBW) (by omega) (by unfold maxLen; omega)).mono ?_
  rintro e w3 (⟨d, u, r, hT, rfl, hr, hb⟩ | ⟨hT, rfl, hb⟩)
  · have HT := Lib.hid hT
    have hsx : (⟨#[]⟩ : ByteArray).size ≤ maxLen := by decide
    clear hT
    have hv3 := HV2.out.next hb HV2.out.lt
    have hr3 := hR2.out.next hb hR2.out.lt
    have f2 := hv3.fz 1
    have g0 := hv3.c0
    have g1 := hv3.c1
    have g2 := hv3.c2
    have HV4 := Lib.hid (hv3.set1 (d.toNat : Int))
    have HR4 := Lib.hid (hr3.far (j := 1) HNE.out (.int .i64 (d.toNat : Int)))
    clear k0 k1 k2
    go_wp2_with fail
    obtain ⟨w4, hw4⟩ : ∃ w4, w3.setCell ⟨w1.heap.size, 1, none⟩ (.int .i64 (d.toNat : Int)) = w4 := ⟨_, rfl⟩
    have hb3 := HB12.out.trans (hb.mono HB12.out.size)
    have HB4 : Hid (Below W.heap.size W w4) := by
      rw [← hw4]
      exact hb3.setCell (p := ⟨w1.heap.size, 1, none⟩) HB1.out.size _
    have hr4 : Rest w4.drew B r u := by
      rw [← hw4]
      obtain ⟨X, x, ex, hx, h1, h2⟩ := hr.next ((Below.refl W.heap.size _).setCell (p := ⟨w1.heap.size, 1, none⟩) HB1.out.size (.int .i64 (d.toNat : Int))) hBW
      exact ⟨X, x, ex, hx.next (below_dr (Below.refl W.heap.size _)) hBW, h1, h2⟩
    rw [hw4] at HV4 HR4
    rw [hw4]
    clear hw4 f2 g0 g1 g2 hv3 hr3 hb3 hb
    cases hm : mayB 2 (d.toNat : Int) ⟨#[]⟩
    · have HM := Lib.hid hm
      clear hm
      refine wp_region_held_drew (S := fun W' => ValAt W' w1.heap.size 2 (d.toNat : Int) ⟨#[]⟩) (by kernel_rfl) HV4.out.dr (fun hHeld => ?_)
      refine takeV 0 (some 52) ((.agg #[.int .i64 2, .int .i64 (d.toNat : Int), .string ⟨#[]⟩])) rfl rfl (by kernel_rfl) (by kernel_rfl) (by kernel_rfl) (fun _ _ _ h => h) (by rfl) (by (intro _w hSw; have q0 := ValAt.c0 hSw; have q1 := ValAt.c1 hSw; have q2 := ValAt.c2 hSw; clear hSw; go_simp)) (by assumption) ?_
      simp only [Act.put, List.setIfInBounds_toArray, List.set_cons_zero, List.set_cons_succ]
      refine takeV 1 (some 53) ((r)) rfl rfl (by kernel_rfl) (by kernel_rfl) (by kernel_rfl) (fun _ _ _ h => h) (by rfl) (by (intro _w _hSw; (try dsimp only at _hSw); go_simp)) (by assumption) ?_
      simp only [Act.put, List.setIfInBounds_toArray, List.set_cons_zero, List.set_cons_succ]
      refine takeV 2 (some 54) ((.bool true)) rfl rfl (by kernel_rfl) (by kernel_rfl) (by kernel_rfl) (fun _ _ _ h => h) (by rfl) (by (intro _w _hSw; (try dsimp only at _hSw); go_simp)) (by assumption) ?_
      simp only [Act.put, List.setIfInBounds_toArray, List.set_cons_zero, List.set_cons_succ]
      refine takeV 3 (some 55) ((.bool true)) rfl rfl (by kernel_rfl) (by kernel_rfl) (by kernel_rfl) (fun _ _ _ h => h) (by rfl) (by (intro _w _hSw; (try dsimp only at _hSw); go_simp)) (by assumption) ?_
      simp only [Act.put, List.setIfInBounds_toArray, List.set_cons_zero, List.set_cons_succ]
      refine takeV 4 (some 56) ((.agg #[.int .i64 2, .int .i64 (d.toNat : Int), .string ⟨#[]⟩])) rfl rfl (by kernel_rfl) (by kernel_rfl) (by kernel_rfl) (fun _ _ _ h => h) (by rfl) (by (intro _w hSw; have q0 := ValAt.c0 hSw; have q1 := ValAt.c1 hSw; have q2 := ValAt.c2 hSw; clear hSw; go_simp)) (by assumption) ?_
      simp only [Act.put, List.setIfInBounds_toArray, List.set_cons_zero, List.set_cons_succ]
      refine callV 5 rfl (by kernel_rfl) (by rfl) (fun K hK => ?_)
      go_simp
      go_at_call 61
      refine (check_no _ hsx HM.out).mono ?_
      rintro e w5 ⟨rfl, hb5⟩
      have hR5 := HR4.out.dr.next hb5 HR4.out.dr.lt
      have HX5 : Hid True := trivial
      have HB5 := Lib.hid ((below_dr HB4.out).trans (hb5.mono HB4.out.size))
      refine hK.out _ _ (ValAt.next hHeld hb5 (ValAt.lt hHeld)) (fun hHeld5 => ?_)
      clear hK K hHeld hb5
      try simp only [Act.put, List.setIfInBounds_toArray, List.set_cons_zero, List.set_cons_succ]
      refine takeV 6 (some 58) ((.bool false)) rfl rfl (by kernel_rfl) (by kernel_rfl) (by kernel_rfl) (fun _ _ _ h => h) (by rfl) (by (intro _w _hSw; (try dsimp only at _hSw); go_simp)) (by assumption) ?_
      simp only [Act.put, List.setIfInBounds_toArray, List.set_cons_zero, List.set_cons_succ]
      refine takeV 7 (some 59) ((.bool false)) rfl rfl (by kernel_rfl) (by kernel_rfl) (by kernel_rfl) (fun _ _ _ h => h) (by rfl) (by (intro _w _hSw; (try dsimp only at _hSw); go_simp)) (by assumption) ?_
      simp only [Act.put, List.setIfInBounds_toArray, List.set_cons_zero, List.set_cons_succ]
      have g0 := hR5.c0
      have g1 := hR5.c1
      have g2 := hR5.c2
      have z0 := hR5.fz 0
      have z1 := hR5.fz 1
      have z2 := hR5.fz 2
      have hF := ((hR5.set0 2).set1 (d.toNat : Int)).set2 ⟨#[]⟩
      have HF := Lib.hid hF
      refine callV 8 rfl (by kernel_rfl) (by rfl) (fun K hK => ?_)
      go_simp
      refine hK.out _ _ (ValAt.far (ValAt.far (ValAt.far hHeld5 HNE.out.symm _) HNE.out.symm _) HNE.out.symm _) (fun hHeld6 => ?_)
      clear hK K g0 g1 g2 z0 z1 z2 hR5 hF
      try simp only [Act.put, List.setIfInBounds_toArray, List.set_cons_zero, List.set_cons_succ]
      refine takeV 9 (some 3) ((r)) rfl rfl (by kernel_rfl) (by kernel_rfl) (by kernel_rfl) (fun _ _ _ h => h) (by rfl) (by (intro _w _hSw; (try dsimp only at _hSw); go_simp)) (by assumption) ?_
      simp only [Act.put, List.setIfInBounds_toArray, List.set_cons_zero, List.set_cons_succ]
      refine takeV 10 (some 4) ((.bool false)) rfl rfl (by kernel_rfl) (by kernel_rfl) (by kernel_rfl) (fun _ _ _ h => h) (by rfl) (by (intro _w _hSw; (try dsimp only at _hSw); go_simp)) (by assumption) ?_
      simp only [Act.put, List.setIfInBounds_toArray, List.set_cons_zero, List.set_cons_succ]
      refine wpAnyH_done (by kernel_rfl) ?_ _
      have g0 := HF.out.c0
      have g1 := HF.out.c1
      have g2 := HF.out.c2
      go_wp2
      refine bodyPost_ret (v := .tuple #[valV 2 (d.toNat : Int) ⟨#[]⟩, r, .bool false]) ?_ rfl ?_
      · rw [results_cell_tmp2 rfl]
        unfold valV
        go_simp
      · refine ⟨.inr ⟨(by rw [HT.out]; first | (rw [hk]; exact oneR_two_no HM.out) | (exact oneR_two_no HM.out)), _, _, _, _, rfl⟩, ((HB5.out.setCell (p := ⟨W.heap.size, 0, none⟩) (Nat.le_refl _) _).setCell (p := ⟨W.heap.size, 1, none⟩) (Nat.le_refl _) _).setCell (p := ⟨W.heap.size, 2, none⟩) (Nat.le_refl _) _⟩
    · have HM := Lib.hid hm
      clear hm
      refine wp_region_held_drew (S := fun W' => ValAt W' w1.heap.size 2 (d.toNat : Int) ⟨#[]⟩) (by kernel_rfl) HV4.out.dr (fun hHeld => ?_)
      refine takeV 0 (some 52) ((.agg #[.int .i64 2, .int .i64 (d.toNat : Int), .string ⟨#[]⟩])) rfl rfl (by kernel_rfl) (by kernel_rfl) (by kernel_rfl) (fun _ _ _ h => h) (by rfl) (by (intro _w hSw; have q0 := ValAt.c0 hSw; have q1 := ValAt.c1 hSw; have q2 := ValAt.c2 hSw; clear hSw; go_simp)) (by assumption) ?_
      simp only [Act.put, List.setIfInBounds_toArray, List.set_cons_zero, List.set_cons_succ]
      refine takeV 1 (some 53) ((r)) rfl rfl (by kernel_rfl) (by kernel_rfl) (by kernel_rfl) (fun _ _ _ h => h) (by rfl) (by (intro _w _hSw; (try dsimp only at _hSw); go_simp)) (by assumption) ?_
      simp only [Act.put, List.setIfInBounds_toArray, List.set_cons_zero, List.set_cons_succ]
      refine takeV 2 (some 54) ((.bool true)) rfl rfl (by kernel_rfl) (by kernel_rfl) (by kernel_rfl) (fun _ _ _ h => h) (by rfl) (by (intro _w _hSw; (try dsimp only at _hSw); go_simp)) (by assumption) ?_
      simp only [Act.put, List.setIfInBounds_toArray, List.set_cons_zero, List.set_cons_succ]
      refine takeV 3 (some 55) ((.bool true)) rfl rfl (by kernel_rfl) (by kernel_rfl) (by kernel_rfl) (fun _ _ _ h => h) (by rfl) (by (intro _w _hSw; (try dsimp only at _hSw); go_simp)) (by assumption) ?_
      simp only [Act.put, List.setIfInBounds_toArray, List.set_cons_zero, List.set_cons_succ]
      refine takeV 4 (some 56) ((.agg #[.int .i64 2, .int .i64 (d.toNat : Int), .string ⟨#[]⟩])) rfl rfl (by kernel_rfl) (by kernel_rfl) (by kernel_rfl) (fun _ _ _ h => h) (by rfl) (by (intro _w hSw; have q0 := ValAt.c0 hSw; have q1 := ValAt.c1 hSw; have q2 := ValAt.c2 hSw; clear hSw; go_simp)) (by assumption) ?_
      simp only [Act.put, List.setIfInBounds_toArray, List.set_cons_zero, List.set_cons_succ]
      refine callV 5 rfl (by kernel_rfl) (by rfl) (fun K hK => ?_)
      go_simp
      go_at_call 61
      refine (check_yes _ hsx HM.out).mono ?_
      rintro e w5 ⟨rfl, hb5⟩
      have hR5 := HR4.out.dr.next hb5 HR4.out.dr.lt
      have HX5 := Lib.hid (hr4.next (hb5.mono HB4.out.size) hBW)
      have HB5 := Lib.hid ((below_dr HB4.out).trans (hb5.mono HB4.out.size))
      refine hK.out _ _ (ValAt.next hHeld hb5 (ValAt.lt hHeld)) (fun hHeld5 => ?_)
      clear hK K hHeld hb5
      try simp only [Act.put, List.setIfInBounds_toArray, List.set_cons_zero, List.set_cons_succ]
      refine takeV 6 (some 58) ((.bool true)) rfl rfl (by kernel_rfl) (by kernel_rfl) (by kernel_rfl) (fun _ _ _ h => h) (by rfl) (by (intro _w _hSw; (try dsimp only at _hSw); go_simp)) (by assumption) ?_
      simp only [Act.put, List.setIfInBounds_toArray, List.set_cons_zero, List.set_cons_succ]
      refine takeV 7 (some 59) ((.bool true)) rfl rfl (by kernel_rfl) (by kernel_rfl) (by kernel_rfl) (fun _ _ _ h => h) (by rfl) (by (intro _w _hSw; (try dsimp only at _hSw); go_simp)) (by assumption) ?_
      simp only [Act.put, List.setIfInBounds_toArray, List.set_cons_zero, List.set_cons_succ]
      have g0 := hR5.c0
      have g1 := hR5.c1
      have g2 := hR5.c2
      have z0 := hR5.fz 0
      have z1 := hR5.fz 1
      have z2 := hR5.fz 2
      have hF := ((hR5.set0 2).set1 (d.toNat : Int)).set2 ⟨#[]⟩
      have HF := Lib.hid hF
      refine callV 8 rfl (by kernel_rfl) (by rfl) (fun K hK => ?_)
      go_simp
      refine hK.out _ _ (ValAt.far (ValAt.far (ValAt.far hHeld5 HNE.out.symm _) HNE.out.symm _) HNE.out.symm _) (fun hHeld6 => ?_)
      clear hK K g0 g1 g2 z0 z1 z2 hR5 hF
      try simp only [Act.put, List.setIfInBounds_toArray, List.set_cons_zero, List.set_cons_succ]
      refine takeV 9 (some 3) ((r)) rfl rfl (by kernel_rfl) (by kernel_rfl) (by kernel_rfl) (fun _ _ _ h => h) (by rfl) (by (intro _w _hSw; (try dsimp only at _hSw); go_simp)) (by assumption) ?_
      simp only [Act.put, List.setIfInBounds_toArray, List.set_cons_zero, List.set_cons_succ]
      refine takeV 10 (some 4) ((.bool true)) rfl rfl (by kernel_rfl) (by kernel_rfl) (by kernel_rfl) (fun _ _ _ h => h) (by rfl) (by (intro _w _hSw; (try dsimp only at _hSw); go_simp)) (by assumption) ?_
      simp only [Act.put, List.setIfInBounds_toArray, List.set_cons_zero, List.set_cons_succ]
      refine wpAnyH_done (by kernel_rfl) ?_ _
      have g0 := HF.out.c0
      have g1 := HF.out.c1
      have g2 := HF.out.c2
      go_wp2
      refine bodyPost_ret (v := .tuple #[valV 2 (d.toNat : Int) ⟨#[]⟩, r, .bool true]) ?_ rfl ?_
      · rw [results_cell_tmp2 rfl]
        unfold valV
        go_simp
      · refine ⟨.inl ⟨_, _, [], _, r, (by rw [HT.out]; first | (rw [hk]; exact oneR_two_yes HM.out) | (exact oneR_two_yes HM.out)), rfl, ?_⟩, ((HB5.out.setCell (p := ⟨W.heap.size, 0, none⟩) (Nat.le_refl _) _).setCell (p := ⟨W.heap.size, 1, none⟩) (Nat.le_refl _) _).setCell (p := ⟨W.heap.size, 2, none⟩) (Nat.le_refl _) _⟩
        exact ((HX5.out.next ((Below.refl W.heap.size _).setCell (p := ⟨W.heap.size, 0, none⟩) (Nat.le_refl _) _) hBW).next ((Below.refl W.heap.size _).setCell (p := ⟨W.heap.size, 1, none⟩) (Nat.le_refl _) _) hBW).next ((Below.refl W.heap.size _).setCell (p := ⟨W.heap.size, 2, none⟩) (Nat.le_refl _) _) hBW
  · have HT := Lib.hid hT
    clear hT
    have hv3 := HV2.out.next hb HV2.out.lt
    have hr3 := hR2.out.next hb hR2.out.lt
    have f2 := hv3.fz 1
    have g0 := hv3.c0
    have g1 := hv3.c1
    have g2 := hv3.c2
    have HV4 := Lib.hid (hv3.set1 0)
    have HR4 := Lib.hid (hr3.far (j := 1) HNE.out (.int .i64 0))
    clear k0 k1 k2
    go_wp2_with fail
    obtain ⟨w4, hw4⟩ : ∃ w4, w3.setCell ⟨w1.heap.size, 1, none⟩ (.int .i64 0) = w4 := ⟨_, rfl⟩
    have hb3 := HB12.out.trans (hb.mono HB12.out.size)
    have HB4 : Hid (Below W.heap.size W w4) := by
      rw [← hw4]
      exact hb3.setCell (p := ⟨w1.heap.size, 1, none⟩) HB1.out.size _
    rw [hw4] at HV4 HR4
    rw [hw4]
    clear hw4 f2 g0 g1 g2 hv3 hr3 hb3 hb
    refine wp_region_held_drew (S := fun W' => ValAt W' w1.heap.size 2 0 ⟨#[]⟩) (by kernel_rfl) HV4.out.dr (fun hHeld => ?_)
    refine takeV 0 (some 52) ((.agg #[.int .i64 2, .int .i64 0, .string ⟨#[]⟩])) rfl rfl (by kernel_rfl) (by kernel_rfl) (by kernel_rfl) (fun _ _ _ h => h) (by rfl) (by (intro _w hSw; have q0 := ValAt.c0 hSw; have q1 := ValAt.c1 hSw; have q2 := ValAt.c2 hSw; clear hSw; go_simp)) (by assumption) ?_
    simp only [Act.put, List.setIfInBounds_toArray, List.set_cons_zero, List.set_cons_succ]
    refine takeV 1 (some 53) ((.slice none 0 0)) rfl rfl (by kernel_rfl) (by kernel_rfl) (by kernel_rfl) (fun _ _ _ h => h) (by rfl) (by (intro _w _hSw; (try dsimp only at _hSw); go_simp)) (by assumption) ?_
    simp only [Act.put, List.setIfInBounds_toArray, List.set_cons_zero, List.set_cons_succ]
    refine takeV 2 (some 54) ((.bool false)) rfl rfl (by kernel_rfl) (by kernel_rfl) (by kernel_rfl) (fun _ _ _ h => h) (by rfl) (by (intro _w _hSw; (try dsimp only at _hSw); go_simp)) (by assumption) ?_
    simp only [Act.put, List.setIfInBounds_toArray, List.set_cons_zero, List.set_cons_succ]
    refine takeV 3 (some 55) ((.bool false)) rfl rfl (by kernel_rfl) (by kernel_rfl) (by kernel_rfl) (fun _ _ _ h => h) (by rfl) (by (intro _w _hSw; (try dsimp only at _hSw); go_simp)) (by assumption) ?_
    simp only [Act.put, List.setIfInBounds_toArray, List.set_cons_zero, List.set_cons_succ]
    have hHeld5 := HV4.out
    have hR5 := HR4.out
    have HB5 := HB4
    refine skipV 4 (some 56) rfl rfl (by kernel_rfl) (by kernel_rfl) (by kernel_rfl) (fun _ _ _ h => h) (by rfl) (by assumption) ?_
    simp only [Act.put, List.setIfInBounds_toArray, List.set_cons_zero, List.set_cons_succ]
    refine skipV 5 (some 57) rfl rfl (by kernel_rfl) (by kernel_rfl) (by kernel_rfl) (fun _ _ _ h => h) (by rfl) (by assumption) ?_
    simp only [Act.put, List.setIfInBounds_toArray, List.set_cons_zero, List.set_cons_succ]
    refine skipV 6 (some 58) rfl rfl (by kernel_rfl) (by kernel_rfl) (by kernel_rfl) (fun _ _ _ h => h) (by rfl) (by assumption) ?_
    simp only [Act.put, List.setIfInBounds_toArray, List.set_cons_zero, List.set_cons_succ]
    refine takeV 7 (some 59) ((.bool false)) rfl rfl (by kernel_rfl) (by kernel_rfl) (by kernel_rfl) (fun _ _ _ h => h) (by rfl) (by (intro _w _hSw; (try dsimp only at _hSw); go_simp)) (by assumption) ?_
    simp only [Act.put, List.setIfInBounds_toArray, List.set_cons_zero, List.set_cons_succ]
    have g0 := hR5.c0
    have g1 := hR5.c1
    have g2 := hR5.c2
    have z0 := hR5.fz 0
    have z1 := hR5.fz 1
    have z2 := hR5.fz 2
    have hF := ((hR5.set0 2).set1 0).set2 ⟨#[]⟩
    have HF := Lib.hid hF
    refine callV 8 rfl (by kernel_rfl) (by rfl) (fun K hK => ?_)
    go_simp
    refine hK.out _ _ (ValAt.dr (ValAt.far (ValAt.far (ValAt.far hHeld5 HNE.out.symm _) HNE.out.symm _) HNE.out.symm _)) (fun hHeld6 => ?_)
    clear hK K g0 g1 g2 z0 z1 z2 hR5 hF
    try simp only [Act.put, List.setIfInBounds_toArray, List.set_cons_zero, List.set_cons_succ]
    refine takeV 9 (some 3) ((.slice none 0 0)) rfl rfl (by kernel_rfl) (by kernel_rfl) (by kernel_rfl) (fun _ _ _ h => h) (by rfl) (by (intro _w _hSw; (try dsimp only at _hSw); go_simp)) (by assumption) ?_
    simp only [Act.put, List.setIfInBounds_toArray, List.set_cons_zero, List.set_cons_succ]
    refine takeV 10 (some 4) ((.bool false)) rfl rfl (by kernel_rfl) (by kernel_rfl) (by kernel_rfl) (fun _ _ _ h => h) (by rfl) (by (intro _w _hSw; (try dsimp only at _hSw); go_simp)) (by assumption) ?_
    simp only [Act.put, List.setIfInBounds_toArray, List.set_cons_zero, List.set_cons_succ]
    refine wpAnyH_done (by kernel_rfl) ?_ _
    have g0 := HF.out.c0
    have g1 := HF.out.c1
    have g2 := HF.out.c2
    go_wp2
    refine bodyPost_ret (v := .tuple #[valV 2 0 ⟨#[]⟩, .slice none 0 0, .bool false]) ?_ rfl ?_
    · rw [results_cell_tmp2 rfl]
      unfold valV
      go_simp
    · refine ⟨.inr ⟨(by rw [HT.out]; first | (rw [hk]; rfl) | (rfl)), _, _, _, _, rfl⟩, below_dr (((HB5.out.setCell (p := ⟨W.heap.size, 0, none⟩) (Nat.le_refl _) _).setCell (p := ⟨W.heap.size, 1, none⟩) (Nat.le_refl _) _).setCell (p := ⟨W.heap.size, 2, none⟩) (Nat.le_refl _) _)⟩

set_option maxRecDepth 100000 in
set_option maxHeartbeats 2000000 in
theorem readValue_3 (a : Addr) (cp : Nat) (c : UInt8) (t : List UInt8) (W : World) (B : Nat) (hBW : B ≤ W.heap.size) (hs : SlB W B (some a) (c :: t)) (hlc : t.length + 1 ≤ cp) (hc : cp ≤ maxLen) (hl : t.length ≤ 10000) (hk : c = 3) :
    Calls Try.prog 110 #[.slice (some a) (t.length + 1) cp] W (ValRd W B (c :: t)) := by
  unfold maxLen at hc
  have hck : (c.toNat : Int) = 3 := by rw [hk]; rfl
  have hal : a.block < W.heap.size := by
    obtain ⟨a', e, h, _⟩ := hs (by simp)
    injection e with e; subst e; omega
  have HCL : Hid (W.cell? a = some (.int .u8 c.toNat)) := by
    obtain ⟨a', e, _, h⟩ := hs (by simp)
    injection e with e; subst e
    have := h 0 c rfl
    rwa [add_zero'] at this
  have HS := Lib.hid hs
  clear hs
  obtain ⟨A2, hA2⟩ : ∃ A2, (if cp = 1 then some a else some ⟨a.block, a.off + 1, none⟩) = A2 := ⟨_, rfl⟩
  have HA2 : Hid (SlB W B A2 t ∧ (A2 = none → cp - 1 = 0)) := by
    have := HS.out.cut (show (c :: t).length ≤ cp from hlc) 1
    rw [hA2] at this
    exact ⟨this, fun h => by rw [← hA2] at h; split at h <;> cases h⟩
  go_enter Try.func110, Try.ntmps110
  go_wp2_with fail
  obtain ⟨w1, hw1⟩ : ∃ w1, W.alloc (.cells #[.int .i64 0, .int .i64 0, .string ⟨#[]⟩] 24) = w1 := ⟨_, rfl⟩
  have HB1 : Hid (Below W.heap.size W w1) := by rw [← hw1]; exact (Below.refl _ _).alloc (Nat.le_refl _) _
  have HR1 : Hid (ValAt w1 W.heap.size 0 0 ⟨#[]⟩) := by rw [← hw1]; exact valAt_new W 0 0 ⟨#[]⟩
  have HNE : Hid (W.heap.size ≠ w1.heap.size) := by show _ ≠ _; rw [← hw1]; simp
  rw [hw1]
  have hwk : IntKind.i64.wrap 3 = 3 := by decide
  have hn1 : ¬ ((t.length : Int) + 1 < 1) := by omega
  have hln : (0 : Int) < (t.length : Int) + 1 := by omega
  refine wp_region_held_drew (S := fun W' => Below w1.heap.size w1 W') (by kernel_rfl) ((Below.refl _ w1).drew) (fun hHeld => ?_)
  refine takeV 0 (some 12) ((.slice (some a) (t.length + 1) cp)) rfl rfl (by kernel_rfl) (by kernel_rfl) (by kernel_rfl) (fun _ _ _ h => h) (by rfl) (by (intro _w _hSw; (try dsimp only at _hSw); go_simp)) (by assumption) ?_
  simp only [Act.put, List.setIfInBounds_toArray, List.set_cons_zero, List.set_cons_succ]
  refine takeV 1 (some 13) ((.pointer (some a))) rfl rfl (by kernel_rfl) (by kernel_rfl) (by kernel_rfl) (fun _ _ _ h => h) (by rfl) (by (intro _w _hSw; (try dsimp only at _hSw); go_simp)) (by assumption) ?_
  simp only [Act.put, List.setIfInBounds_toArray, List.set_cons_zero, List.set_cons_succ]
  refine takeV 2 (some 14) ((.int .u8 c.toNat)) rfl rfl (by kernel_rfl) (by kernel_rfl) (by kernel_rfl) (fun _ _ _ h => h) (by rfl) (by (intro _w hSw; have q1 := (hSw.cell (p := a) (Nat.lt_of_lt_of_le hal HB1.out.size)).trans ((HB1.out.cell (p := a) hal).trans HCL.out); clear hSw; go_simp)) (by assumption) ?_
  simp only [Act.put, List.setIfInBounds_toArray, List.set_cons_zero, List.set_cons_succ]
  refine takeV 3 (some 15) ((.int .i64 3)) rfl rfl (by kernel_rfl) (by kernel_rfl) (by kernel_rfl) (fun _ _ _ h => h) (by rfl) (by (intro _w _hSw; (try dsimp only at _hSw); go_simp)) (by assumption) ?_
  simp only [Act.put, List.setIfInBounds_toArray, List.set_cons_zero, List.set_cons_succ]
  refine takeV 4 (some 16) ((.agg #[.int .i64 3, .int .i64 0, .string ⟨#[]⟩])) rfl rfl (by kernel_rfl) (by kernel_rfl) (by kernel_rfl) (fun _ _ _ h => h) (by rfl) (by (intro _w _hSw; (try dsimp only at _hSw); go_simp)) (by assumption) ?_
  simp only [Act.put, List.setIfInBounds_toArray, List.set_cons_zero, List.set_cons_succ]
  refine takeV 5 (some 17) ((.slice (some a) (t.length + 1) cp)) rfl rfl (by kernel_rfl) (by kernel_rfl) (by kernel_rfl) (fun _ _ _ h => h) (by rfl) (by (intro _w _hSw; (try dsimp only at _hSw); go_simp)) (by assumption) ?_
  simp only [Act.put, List.setIfInBounds_toArray, List.set_cons_zero, List.set_cons_succ]
  refine takeV 6 (some 18) ((.slice A2 t.length (cp - 1))) rfl rfl (by kernel_rfl) (by kernel_rfl) (by kernel_rfl) (fun _ _ _ h => h) (by rfl) (by (intro _w hSw; clear hHeld; clear hSw; go_simp)) (by assumption) ?_
  simp only [Act.put, List.setIfInBounds_toArray, List.set_cons_zero, List.set_cons_succ]
  refine callV 7 rfl (by kernel_rfl) (by rfl) (fun K hK => ?_)
  go_simp
  refine hK.out _ _ (below_dr ((Below.refl _ w1).alloc (Nat.le_refl _) _)) (fun hHeld2 => ?_)
  clear hK K hHeld
  try simp only [Act.put, List.setIfInBounds_toArray, List.set_cons_zero, List.set_cons_succ]
  refine callV 8 rfl (by kernel_rfl) (by rfl) (fun K hK => ?_)
  go_simp
  refine hK.out _ _ (below_dr ((Below.refl _ w1).alloc (Nat.le_refl _) _)) (fun hHeld3 => ?_)
  clear hK K hHeld2
  try simp only [Act.put, List.setIfInBounds_toArray, List.set_cons_zero, List.set_cons_succ]
  refine takeV 9 (some 6) ((.slice A2 t.length (cp - 1))) rfl rfl (by kernel_rfl) (by kernel_rfl) (by kernel_rfl) (fun _ _ _ h => h) (by rfl) (by (intro _w _hSw; (try dsimp only at _hSw); go_simp)) (by assumption) ?_
  simp only [Act.put, List.setIfInBounds_toArray, List.set_cons_zero, List.set_cons_succ]
  refine takeV 10 (some 7) ((.bool false)) rfl rfl (by kernel_rfl) (by kernel_rfl) (by kernel_rfl) (fun _ _ _ h => h) (by rfl) (by (intro _w _hSw; (try dsimp only at _hSw); go_simp)) (by assumption) ?_
  simp only [Act.put, List.setIfInBounds_toArray, List.set_cons_zero, List.set_cons_succ]
  refine wpAnyH_done (by kernel_rfl) ?_ _
  obtain ⟨w2, hw2⟩ : ∃ w2, (w1.alloc (.cells #[.int .i64 3, .int .i64 0, .string ⟨#[]⟩] 24)).drew = w2 := ⟨_, rfl⟩
  have HV2 : Hid (ValAt w2 w1.heap.size 3 0 ⟨#[]⟩) := by rw [← hw2]; exact valAt_new w1 3 0 ⟨#[]⟩
  have HB2 : Hid (Below w1.heap.size w1 w2) := by rw [← hw2]; exact hHeld3
  have HB12 : Hid (Below W.heap.size W w2) := HB1.out.trans (HB2.out.mono HB1.out.size)
  rw [hw2]
  clear hw2 hHeld3 hw1
  have hR2 : Hid (ValAt w2 W.heap.size 0 0 ⟨#[]⟩) := HR1.out.next HB2.out HR1.out.lt
  have k0 := HV2.out.c0
  have k1 := HV2.out.c1
  have k2 := HV2.out.c2
  go_wp2_with fail
  refine (readString_any (B := B) A2 (cp - 1) t w2 (Nat.le_trans hBW HB12.out.size) (HA2.out.1.next HB12.out hBW) HA2.out.2 (by omega) (by unfold maxLen; omega) (by omega)).mono ?_
  rintro e w3 (⟨s, u, r, hT, rfl, hr, hb⟩ | ⟨hT, rfl, hb⟩)
  · have HT := Lib.hid hT
    have hsl := txtR_len hT
    have hsx : (⟨s.toArray⟩ : ByteArray).size ≤ maxLen := by show s.toArray.size ≤ _; unfold maxLen; simp; omega
    clear hT
    have hv3 := HV2.out.next hb HV2.out.lt
    have hr3 := hR2.out.next hb hR2.out.lt
    have f2 := hv3.fz 2
    have g0 := hv3.c0
    have g1 := hv3.c1
    have g2 := hv3.c2
    have HV4 := Lib.hid (hv3.set2 ⟨s.toArray⟩)
    have HR4 := Lib.hid (hr3.far (j := 2) HNE.out (.string ⟨s.toArray⟩))
    clear k0 k1 k2
    go_wp2_with fail
    obtain ⟨w4, hw4⟩ : ∃ w4, w3.setCell ⟨w1.heap.size, 2, none⟩ (.string ⟨s.toArray⟩) = w4 := ⟨_, rfl⟩
    have hb3 := HB12.out.trans (hb.mono HB12.out.size)
    have HB4 : Hid (Below W.heap.size W w4) := by
      rw [← hw4]
      exact hb3.setCell (p := ⟨w1.heap.size, 2, none⟩) HB1.out.size _
    have hr4 : Rest w4.drew B r u := by
      rw [← hw4]
      obtain ⟨X, x, ex, hx, h1, h2⟩ := hr.next ((Below.refl W.heap.size _).setCell (p := ⟨w1.heap.size, 2, none⟩) HB1.out.size (.string ⟨s.toArray⟩)) hBW
      exact ⟨X, x, ex, hx.next (below_dr (Below.refl W.heap.size _)) hBW, h1, h2⟩
    rw [hw4] at HV4 HR4
    rw [hw4]
    clear hw4 f2 g0 g1 g2 hv3 hr3 hb3 hb
    cases hm : mayB 3 0 ⟨s.toArray⟩
    · have HM := Lib.hid hm
      clear hm
      refine wp_region_held_drew (S := fun W' => ValAt W' w1.heap.size 3 0 ⟨s.toArray⟩) (by kernel_rfl) HV4.out.dr (fun hHeld => ?_)
      refine takeV 0 (some 52) ((.agg #[.int .i64 3, .int .i64 0, .string ⟨s.toArray⟩])) rfl rfl (by kernel_rfl) (by kernel_rfl) (by kernel_rfl) (fun _ _ _ h => h) (by rfl) (by (intro _w hSw; have q0 := ValAt.c0 hSw; have q1 := ValAt.c1 hSw; have q2 := ValAt.c2 hSw; clear hSw; go_simp)) (by assumption) ?_
      simp only [Act.put, List.setIfInBounds_toArray, List.set_cons_zero, List.set_cons_succ]
      refine takeV 1 (some 53) ((r)) rfl rfl (by kernel_rfl) (by kernel_rfl) (by kernel_rfl) (fun _ _ _ h => h) (by rfl) (by (intro _w _hSw; (try dsimp only at _hSw); go_simp)) (by assumption) ?_
      simp only [Act.put, List.setIfInBounds_toArray, List.set_cons_zero, List.set_cons_succ]
      refine takeV 2 (some 54) ((.bool true)) rfl rfl (by kernel_rfl) (by kernel_rfl) (by kernel_rfl) (fun _ _ _ h => h) (by rfl) (by (intro _w _hSw; (try dsimp only at _hSw); go_simp)) (by assumption) ?_
      simp only [Act.put, List.setIfInBounds_toArray, List.set_cons_zero, List.set_cons_succ]
      refine takeV 3 (some 55) ((.bool true)) rfl rfl (by kernel_rfl) (by kernel_rfl) (by kernel_rfl) (fun _ _ _ h => h) (by rfl) (by (intro _w _hSw; (try dsimp only at _hSw); go_simp)) (by assumption) ?_
      simp only [Act.put, List.setIfInBounds_toArray, List.set_cons_zero, List.set_cons_succ]
      refine takeV 4 (some 56) ((.agg #[.int .i64 3, .int .i64 0, .string ⟨s.toArray⟩])) rfl rfl (by kernel_rfl) (by kernel_rfl) (by kernel_rfl) (fun _ _ _ h => h) (by rfl) (by (intro _w hSw; have q0 := ValAt.c0 hSw; have q1 := ValAt.c1 hSw; have q2 := ValAt.c2 hSw; clear hSw; go_simp)) (by assumption) ?_
      simp only [Act.put, List.setIfInBounds_toArray, List.set_cons_zero, List.set_cons_succ]
      refine callV 5 rfl (by kernel_rfl) (by rfl) (fun K hK => ?_)
      go_simp
      go_at_call 61
      refine (check_no _ hsx HM.out).mono ?_
      rintro e w5 ⟨rfl, hb5⟩
      have hR5 := HR4.out.dr.next hb5 HR4.out.dr.lt
      have HX5 : Hid True := trivial
      have HB5 := Lib.hid ((below_dr HB4.out).trans (hb5.mono HB4.out.size))
      refine hK.out _ _ (ValAt.next hHeld hb5 (ValAt.lt hHeld)) (fun hHeld5 => ?_)
      clear hK K hHeld hb5
      try simp only [Act.put, List.setIfInBounds_toArray, List.set_cons_zero, List.set_cons_succ]
      refine takeV 6 (some 58) ((.bool false)) rfl rfl (by kernel_rfl) (by kernel_rfl) (by kernel_rfl) (fun _ _ _ h => h) (by rfl) (by (intro _w _hSw; (try dsimp only at _hSw); go_simp)) (by assumption) ?_
      simp only [Act.put, List.setIfInBounds_toArray, List.set_cons_zero, List.set_cons_succ]
      refine takeV 7 (some 59) ((.bool false)) rfl rfl (by kernel_rfl) (by kernel_rfl) (by kernel_rfl) (fun _ _ _ h => h) (by rfl) (by (intro _w _hSw; (try dsimp only at _hSw); go_simp)) (by assumption) ?_
      simp only [Act.put, List.setIfInBounds_toArray, List.set_cons_zero, List.set_cons_succ]
      have g0 := hR5.c0
      have g1 := hR5.c1
      have g2 := hR5.c2
      have z0 := hR5.fz 0
      have z1 := hR5.fz 1
      have z2 := hR5.fz 2
      have hF := ((hR5.set0 3).set1 0).set2 ⟨s.toArray⟩
      have HF := Lib.hid hF
      refine callV 8 rfl (by kernel_rfl) (by rfl) (fun K hK => ?_)
      go_simp
      refine hK.out _ _ (ValAt.far (ValAt.far (ValAt.far hHeld5 HNE.out.symm _) HNE.out.symm _) HNE.out.symm _) (fun hHeld6 => ?_)
      clear hK K g0 g1 g2 z0 z1 z2 hR5 hF
      try simp only [Act.put, List.setIfInBounds_toArray, List.set_cons_zero, List.set_cons_succ]
      refine takeV 9 (some 3) ((r)) rfl rfl (by kernel_rfl) (by kernel_rfl) (by kernel_rfl) (fun _ _ _ h => h) (by rfl) (by (intro _w _hSw; (try dsimp only at _hSw); go_simp)) (by assumption) ?_
      simp only [Act.put, List.setIfInBounds_toArray, List.set_cons_zero, List.set_cons_succ]
      refine takeV 10 (some 4) ((.bool false)) rfl rfl (by kernel_rfl) (by kernel_rfl) (by kernel_rfl) (fun _ _ _ h => h) (by rfl) (by (intro _w _hSw; (try dsimp only at _hSw); go_simp)) (by assumption) ?_
      simp only [Act.put, List.setIfInBounds_toArray, List.set_cons_zero, List.set_cons_succ]
      refine wpAnyH_done (by kernel_rfl) ?_ _
      have g0 := HF.out.c0
      have g1 := HF.out.c1
      have g2 := HF.out.c2
      go_wp2
      refine bodyPost_ret (v := .tuple #[valV 3 0 ⟨s.toArray⟩, r, .bool false]) ?_ rfl ?_
      · rw [results_cell_tmp2 rfl]
        unfold valV
        go_simp
      · refine ⟨.inr ⟨(by first | (rw [hk]; exact oneR_txt_no (.inl rfl) HT.out HM.out) | exact oneR_txt_no (.inl rfl) HT.out HM.out), _, _, _, _, rfl⟩, ((HB5.out.setCell (p := ⟨W.heap.size, 0, none⟩) (Nat.le_refl _) _).setCell (p := ⟨W.heap.size, 1, none⟩) (Nat.le_refl _) _).setCell (p := ⟨W.heap.size, 2, none⟩) (Nat.le_refl _) _⟩
    · have HM := Lib.hid hm
      clear hm
      refine wp_region_held_drew (S := fun W' => ValAt W' w1.heap.size 3 0 ⟨s.toArray⟩) (by kernel_rfl) HV4.out.dr (fun hHeld => ?_)
      refine takeV 0 (some 52) ((.agg #[.int .i64 3, .int .i64 0, .string ⟨s.toArray⟩])) rfl rfl (by kernel_rfl) (by kernel_rfl) (by kernel_rfl) (fun _ _ _ h => h) (by rfl) (by (intro _w hSw; have q0 := ValAt.c0 hSw; have q1 := ValAt.c1 hSw; have q2 := ValAt.c2 hSw; clear hSw; go_simp)) (by assumption) ?_
      simp only [Act.put, List.setIfInBounds_toArray, List.set_cons_zero, List.set_cons_succ]
      refine takeV 1 (some 53) ((r)) rfl rfl (by kernel_rfl) (by kernel_rfl) (by kernel_rfl) (fun _ _ _ h => h) (by rfl) (by (intro _w _hSw; (try dsimp only at _hSw); go_simp)) (by assumption) ?_
      simp only [Act.put, List.setIfInBounds_toArray, List.set_cons_zero, List.set_cons_succ]
      refine takeV 2 (some 54) ((.bool true)) rfl rfl (by kernel_rfl) (by kernel_rfl) (by kernel_rfl) (fun _ _ _ h => h) (by rfl) (by (intro _w _hSw; (try dsimp only at _hSw); go_simp)) (by assumption) ?_
      simp only [Act.put, List.setIfInBounds_toArray, List.set_cons_zero, List.set_cons_succ]
      refine takeV 3 (some 55) ((.bool true)) rfl rfl (by kernel_rfl) (by kernel_rfl) (by kernel_rfl) (fun _ _ _ h => h) (by rfl) (by (intro _w _hSw; (try dsimp only at _hSw); go_simp)) (by assumption) ?_
      simp only [Act.put, List.setIfInBounds_toArray, List.set_cons_zero, List.set_cons_succ]
      refine takeV 4 (some 56) ((.agg #[.int .i64 3, .int .i64 0, .string ⟨s.toArray⟩])) rfl rfl (by kernel_rfl) (by kernel_rfl) (by kernel_rfl) (fun _ _ _ h => h) (by rfl) (by (intro _w hSw; have q0 := ValAt.c0 hSw; have q1 := ValAt.c1 hSw; have q2 := ValAt.c2 hSw; clear hSw; go_simp)) (by assumption) ?_
      simp only [Act.put, List.setIfInBounds_toArray, List.set_cons_zero, List.set_cons_succ]
      refine callV 5 rfl (by kernel_rfl) (by rfl) (fun K hK => ?_)
      go_simp
      go_at_call 61
      refine (check_yes _ hsx HM.out).mono ?_
      rintro e w5 ⟨rfl, hb5⟩
      have hR5 := HR4.out.dr.next hb5 HR4.out.dr.lt
      have HX5 := Lib.hid (hr4.next (hb5.mono HB4.out.size) hBW)
      have HB5 := Lib.hid ((below_dr HB4.out).trans (hb5.mono HB4.out.size))
      refine hK.out _ _ (ValAt.next hHeld hb5 (ValAt.lt hHeld)) (fun hHeld5 => ?_)
      clear hK K hHeld hb5
      try simp only [Act.put, List.setIfInBounds_toArray, List.set_cons_zero, List.set_cons_succ]
      refine takeV 6 (some 58) ((.bool true)) rfl rfl (by kernel_rfl) (by kernel_rfl) (by kernel_rfl) (fun _ _ _ h => h) (by rfl) (by (intro _w _hSw; (try dsimp only at _hSw); go_simp)) (by assumption) ?_
      simp only [Act.put, List.setIfInBounds_toArray, List.set_cons_zero, List.set_cons_succ]
      refine takeV 7 (some 59) ((.bool true)) rfl rfl (by kernel_rfl) (by kernel_rfl) (by kernel_rfl) (fun _ _ _ h => h) (by rfl) (by (intro _w _hSw; (try dsimp only at _hSw); go_simp)) (by assumption) ?_
      simp only [Act.put, List.setIfInBounds_toArray, List.set_cons_zero, List.set_cons_succ]
      have g0 := hR5.c0
      have g1 := hR5.c1
      have g2 := hR5.c2
      have z0 := hR5.fz 0
      have z1 := hR5.fz 1
      have z2 := hR5.fz 2
      have hF := ((hR5.set0 3).set1 0).set2 ⟨s.toArray⟩
      have HF := Lib.hid hF
      refine callV 8 rfl (by kernel_rfl) (by rfl) (fun K hK => ?_)
      go_simp
      refine hK.out _ _ (ValAt.far (ValAt.far (ValAt.far hHeld5 HNE.out.symm _) HNE.out.symm _) HNE.out.symm _) (fun hHeld6 => ?_)
      clear hK K g0 g1 g2 z0 z1 z2 hR5 hF
      try simp only [Act.put, List.setIfInBounds_toArray, List.set_cons_zero, List.set_cons_succ]
      refine takeV 9 (some 3) ((r)) rfl rfl (by kernel_rfl) (by kernel_rfl) (by kernel_rfl) (fun _ _ _ h => h) (by rfl) (by (intro _w _hSw; (try dsimp only at _hSw); go_simp)) (by assumption) ?_
      simp only [Act.put, List.setIfInBounds_toArray, List.set_cons_zero, List.set_cons_succ]
      refine takeV 10 (some 4) ((.bool true)) rfl rfl (by kernel_rfl) (by kernel_rfl) (by kernel_rfl) (fun _ _ _ h => h) (by rfl) (by (intro _w _hSw; (try dsimp only at _hSw); go_simp)) (by assumption) ?_
      simp only [Act.put, List.setIfInBounds_toArray, List.set_cons_zero, List.set_cons_succ]
      refine wpAnyH_done (by kernel_rfl) ?_ _
      have g0 := HF.out.c0
      have g1 := HF.out.c1
      have g2 := HF.out.c2
      go_wp2
      refine bodyPost_ret (v := .tuple #[valV 3 0 ⟨s.toArray⟩, r, .bool true]) ?_ rfl ?_
      · rw [results_cell_tmp2 rfl]
        unfold valV
        go_simp
      · refine ⟨.inl ⟨_, _, s, u, r, (by first | (rw [hk]; exact oneR_txt_yes (.inl rfl) HT.out HM.out) | exact oneR_txt_yes (.inl rfl) HT.out HM.out), rfl, ?_⟩, ((HB5.out.setCell (p := ⟨W.heap.size, 0, none⟩) (Nat.le_refl _) _).setCell (p := ⟨W.heap.size, 1, none⟩) (Nat.le_refl _) _).setCell (p := ⟨W.heap.size, 2, none⟩) (Nat.le_refl _) _⟩
        exact ((HX5.out.next ((Below.refl W.heap.size _).setCell (p := ⟨W.heap.size, 0, none⟩) (Nat.le_refl _) _) hBW).next ((Below.refl W.heap.size _).setCell (p := ⟨W.heap.size, 1, none⟩) (Nat.le_refl _) _) hBW).next ((Below.refl W.heap.size _).setCell (p := ⟨W.heap.size, 2, none⟩) (Nat.le_refl _) _) hBW
  · have HT := Lib.hid hT
    clear hT
    have hv3 := HV2.out.next hb HV2.out.lt
    have hr3 := hR2.out.next hb hR2.out.lt
    have f2 := hv3.fz 2
    have g0 := hv3.c0
    have g1 := hv3.c1
    have g2 := hv3.c2
    have HV4 := Lib.hid (hv3.set2 ⟨#[]⟩)
    have HR4 := Lib.hid (hr3.far (j := 2) HNE.out (.string ⟨#[]⟩))
    clear k0 k1 k2
    go_wp2_with fail
    obtain ⟨w4, hw4⟩ : ∃ w4, w3.setCell ⟨w1.heap.size, 2, none⟩ (.string ⟨#[]⟩) = w4 := ⟨_, rfl⟩
    have hb3 := HB12.out.trans (hb.mono HB12.out.size)
    have HB4 : Hid (Below W.heap.size W w4) := by
      rw [← hw4]
      exact hb3.setCell (p := ⟨w1.heap.size, 2, none⟩) HB1.out.size _
    rw [hw4] at HV4 HR4
    rw [hw4]
    clear hw4 f2 g0 g1 g2 hv3 hr3 hb3 hb
    refine wp_region_held_drew (S := fun W' => ValAt W' w1.heap.size 3 0 ⟨#[]⟩) (by kernel_rfl) HV4.out.dr (fun hHeld => ?_)
    refine takeV 0 (some 52) ((.agg #[.int .i64 3, .int .i64 0, .string ⟨#[]⟩])) rfl rfl (by kernel_rfl) (by kernel_rfl) (by kernel_rfl) (fun _ _ _ h => h) (by rfl) (by (intro _w hSw; have q0 := ValAt.c0 hSw; have q1 := ValAt.c1 hSw; have q2 := ValAt.c2 hSw; clear hSw; go_simp)) (by assumption) ?_
    simp only [Act.put, List.setIfInBounds_toArray, List.set_cons_zero, List.set_cons_succ]
    refine takeV 1 (some 53) ((.slice none 0 0)) rfl rfl (by kernel_rfl) (by kernel_rfl) (by kernel_rfl) (fun _ _ _ h => h) (by rfl) (by (intro _w _hSw; (try dsimp only at _hSw); go_simp)) (by assumption) ?_
    simp only [Act.put, List.setIfInBounds_toArray, List.set_cons_zero, List.set_cons_succ]
    refine takeV 2 (some 54) ((.bool false)) rfl rfl (by kernel_rfl) (by kernel_rfl) (by kernel_rfl) (fun _ _ _ h => h) (by rfl) (by (intro _w _hSw; (try dsimp only at _hSw); go_simp)) (by assumption) ?_
    simp only [Act.put, List.setIfInBounds_toArray, List.set_cons_zero, List.set_cons_succ]
    refine takeV 3 (some 55) ((.bool false)) rfl rfl (by kernel_rfl) (by kernel_rfl) (by kernel_rfl) (fun _ _ _ h => h) (by rfl) (by (intro _w _hSw; (try dsimp only at _hSw); go_simp)) (by assumption) ?_
    simp only [Act.put, List.setIfInBounds_toArray, List.set_cons_zero, List.set_cons_succ]
    have hHeld5 := HV4.out
    have hR5 := HR4.out
    have HB5 := HB4
    refine skipV 4 (some 56) rfl rfl (by kernel_rfl) (by kernel_rfl) (by kernel_rfl) (fun _ _ _ h => h) (by rfl) (by assumption) ?_
    simp only [Act.put, List.setIfInBounds_toArray, List.set_cons_zero, List.set_cons_succ]
    refine skipV 5 (some 57) rfl rfl (by kernel_rfl) (by kernel_rfl) (by kernel_rfl) (fun _ _ _ h => h) (by rfl) (by assumption) ?_
    simp only [Act.put, List.setIfInBounds_toArray, List.set_cons_zero, List.set_cons_succ]
    refine skipV 6 (some 58) rfl rfl (by kernel_rfl) (by kernel_rfl) (by kernel_rfl) (fun _ _ _ h => h) (by rfl) (by assumption) ?_
    simp only [Act.put, List.setIfInBounds_toArray, List.set_cons_zero, List.set_cons_succ]
    refine takeV 7 (some 59) ((.bool false)) rfl rfl (by kernel_rfl) (by kernel_rfl) (by kernel_rfl) (fun _ _ _ h => h) (by rfl) (by (intro _w _hSw; (try dsimp only at _hSw); go_simp)) (by assumption) ?_
    simp only [Act.put, List.setIfInBounds_toArray, List.set_cons_zero, List.set_cons_succ]
    have g0 := hR5.c0
    have g1 := hR5.c1
    have g2 := hR5.c2
    have z0 := hR5.fz 0
    have z1 := hR5.fz 1
    have z2 := hR5.fz 2
    have hF := ((hR5.set0 3).set1 0).set2 ⟨#[]⟩
    have HF := Lib.hid hF
    refine callV 8 rfl (by kernel_rfl) (by rfl) (fun K hK => ?_)
    go_simp
    refine hK.out _ _ (ValAt.dr (ValAt.far (ValAt.far (ValAt.far hHeld5 HNE.out.symm _) HNE.out.symm _) HNE.out.symm _)) (fun hHeld6 => ?_)
    clear hK K g0 g1 g2 z0 z1 z2 hR5 hF
    try simp only [Act.put, List.setIfInBounds_toArray, List.set_cons_zero, List.set_cons_succ]
    refine takeV 9 (some 3) ((.slice none 0 0)) rfl rfl (by kernel_rfl) (by kernel_rfl) (by kernel_rfl) (fun _ _ _ h => h) (by rfl) (by (intro _w _hSw; (try dsimp only at _hSw); go_simp)) (by assumption) ?_
    simp only [Act.put, List.setIfInBounds_toArray, List.set_cons_zero, List.set_cons_succ]
    refine takeV 10 (some 4) ((.bool false)) rfl rfl (by kernel_rfl) (by kernel_rfl) (by kernel_rfl) (fun _ _ _ h => h) (by rfl) (by (intro _w _hSw; (try dsimp only at _hSw); go_simp)) (by assumption) ?_
    simp only [Act.put, List.setIfInBounds_toArray, List.set_cons_zero, List.set_cons_succ]
    refine wpAnyH_done (by kernel_rfl) ?_ _
    have g0 := HF.out.c0
    have g1 := HF.out.c1
    have g2 := HF.out.c2
    go_wp2
    refine bodyPost_ret (v := .tuple #[valV 3 0 ⟨#[]⟩, .slice none 0 0, .bool false]) ?_ rfl ?_
    · rw [results_cell_tmp2 rfl]
      unfold valV
      go_simp
    · refine ⟨.inr ⟨(by first | (rw [hk]; exact oneR_txt_none (.inl rfl) HT.out) | exact oneR_txt_none (.inl rfl) HT.out), _, _, _, _, rfl⟩, below_dr (((HB5.out.setCell (p := ⟨W.heap.size, 0, none⟩) (Nat.le_refl _) _).setCell (p := ⟨W.heap.size, 1, none⟩) (Nat.le_refl _) _).setCell (p := ⟨W.heap.size, 2, none⟩) (Nat.le_refl _) _)⟩

set_option maxRecDepth 100000 in
set_option maxHeartbeats 2000000 in
theorem readValue_4 (a : Addr) (cp : Nat) (c : UInt8) (t : List UInt8) (W : World) (B : Nat) (hBW : B ≤ W.heap.size) (hs : SlB W B (some a) (c :: t)) (hlc : t.length + 1 ≤ cp) (hc : cp ≤ maxLen) (hl : t.length ≤ 10000) (hk : c = 4) :
    Calls Try.prog 110 #[.slice (some a) (t.length + 1) cp] W (ValRd W B (c :: t)) := by
  unfold maxLen at hc
  have hck : (c.toNat : Int) = 4 := by rw [hk]; rfl
  have hal : a.block < W.heap.size := by
    obtain ⟨a', e, h, _⟩ := hs (by simp)
    injection e with e; subst e; omega
  have HCL : Hid (W.cell? a = some (.int .u8 c.toNat)) := by
    obtain ⟨a', e, _, h⟩ := hs (by simp)
    injection e with e; subst e
    have := h 0 c rfl
    rwa [add_zero'] at this
  have HS := Lib.hid hs
  clear hs
  obtain ⟨A2, hA2⟩ : ∃ A2, (if cp = 1 then some a else some ⟨a.block, a.off + 1, none⟩) = A2 := ⟨_, rfl⟩
  have HA2 : Hid (SlB W B A2 t ∧ (A2 = none → cp - 1 = 0)) := by
    have := HS.out.cut (show (c :: t).length ≤ cp from hlc) 1
    rw [hA2] at this
    exact ⟨this, fun h => by rw [← hA2] at h; split at h <;> cases h⟩
  go_enter Try.func110, Try.ntmps110
  go_wp2_with fail
  obtain ⟨w1, hw1⟩ : ∃ w1, W.alloc (.cells #[.int .i64 0, .int .i64 0, .string ⟨#[]⟩] 24) = w1 := ⟨_, rfl⟩
  have HB1 : Hid (Below W.heap.size W w1) := by rw [← hw1]; exact (Below.refl _ _).alloc (Nat.le_refl _) _
  have HR1 : Hid (ValAt w1 W.heap.size 0 0 ⟨#[]⟩) := by rw [← hw1]; exact valAt_new W 0 0 ⟨#[]⟩
  have HNE : Hid (W.heap.size ≠ w1.heap.size) := by show _ ≠ _; rw [← hw1]; simp
  rw [hw1]
  have hwk : IntKind.i64.wrap 4 = 4 := by decide
  have hn1 : ¬ ((t.length : Int) + 1 < 1) := by omega
  have hln : (0 : Int) < (t.length : Int) + 1 := by omega
  refine wp_region_held_drew (S := fun W' => Below w1.heap.size w1 W') (by kernel_rfl) ((Below.refl _ w1).drew) (fun hHeld => ?_)
  refine takeV 0 (some 12) ((.slice (some a) (t.length + 1) cp)) rfl rfl (by kernel_rfl) (by kernel_rfl) (by kernel_rfl) (fun _ _ _ h => h) (by rfl) (by (intro _w _hSw; (try dsimp only at _hSw); go_simp)) (by assumption) ?_
  simp only [Act.put, List.setIfInBounds_toArray, List.set_cons_zero, List.set_cons_succ]
  refine takeV 1 (some 13) ((.pointer (some a))) rfl rfl (by kernel_rfl) (by kernel_rfl) (by kernel_rfl) (fun _ _ _ h => h) (by rfl) (by (intro _w _hSw; (try dsimp only at _hSw); go_simp)) (by assumption) ?_
  simp only [Act.put, List.setIfInBounds_toArray, List.set_cons_zero, List.set_cons_succ]
  refine takeV 2 (some 14) ((.int .u8 c.toNat)) rfl rfl (by kernel_rfl) (by kernel_rfl) (by kernel_rfl) (fun _ _ _ h => h) (by rfl) (by (intro _w hSw; have q1 := (hSw.cell (p := a) (Nat.lt_of_lt_of_le hal HB1.out.size)).trans ((HB1.out.cell (p := a) hal).trans HCL.out); clear hSw; go_simp)) (by assumption) ?_
  simp only [Act.put, List.setIfInBounds_toArray, List.set_cons_zero, List.set_cons_succ]
  refine takeV 3 (some 15) ((.int .i64 4)) rfl rfl (by kernel_rfl) (by kernel_rfl) (by kernel_rfl) (fun _ _ _ h => h) (by rfl) (by (intro _w _hSw; (try dsimp only at _hSw); go_simp)) (by assumption) ?_
  simp only [Act.put, List.setIfInBounds_toArray, List.set_cons_zero, List.set_cons_succ]
  refine takeV 4 (some 16) ((.agg #[.int .i64 4, .int .i64 0, .string ⟨#[]⟩])) rfl rfl (by kernel_rfl) (by kernel_rfl) (by kernel_rfl) (fun _ _ _ h => h) (by rfl) (by (intro _w _hSw; (try dsimp only at _hSw); go_simp)) (by assumption) ?_
  simp only [Act.put, List.setIfInBounds_toArray, List.set_cons_zero, List.set_cons_succ]
  refine takeV 5 (some 17) ((.slice (some a) (t.length + 1) cp)) rfl rfl (by kernel_rfl) (by kernel_rfl) (by kernel_rfl) (fun _ _ _ h => h) (by rfl) (by (intro _w _hSw; (try dsimp only at _hSw); go_simp)) (by assumption) ?_
  simp only [Act.put, List.setIfInBounds_toArray, List.set_cons_zero, List.set_cons_succ]
  refine takeV 6 (some 18) ((.slice A2 t.length (cp - 1))) rfl rfl (by kernel_rfl) (by kernel_rfl) (by kernel_rfl) (fun _ _ _ h => h) (by rfl) (by (intro _w hSw; clear hHeld; clear hSw; go_simp)) (by assumption) ?_
  simp only [Act.put, List.setIfInBounds_toArray, List.set_cons_zero, List.set_cons_succ]
  refine callV 7 rfl (by kernel_rfl) (by rfl) (fun K hK => ?_)
  go_simp
  refine hK.out _ _ (below_dr ((Below.refl _ w1).alloc (Nat.le_refl _) _)) (fun hHeld2 => ?_)
  clear hK K hHeld
  try simp only [Act.put, List.setIfInBounds_toArray, List.set_cons_zero, List.set_cons_succ]
  refine callV 8 rfl (by kernel_rfl) (by rfl) (fun K hK => ?_)
  go_simp
  refine hK.out _ _ (below_dr ((Below.refl _ w1).alloc (Nat.le_refl _) _)) (fun hHeld3 => ?_)
  clear hK K hHeld2
  try simp only [Act.put, List.setIfInBounds_toArray, List.set_cons_zero, List.set_cons_succ]
  refine takeV 9 (some 6) ((.slice A2 t.length (cp - 1))) rfl rfl (by kernel_rfl) (by kernel_rfl) (by kernel_rfl) (fun _ _ _ h => h) (by rfl) (by (intro _w _hSw; (try dsimp only at _hSw); go_simp)) (by assumption) ?_
  simp only [Act.put, List.setIfInBounds_toArray, List.set_cons_zero, List.set_cons_succ]
  refine takeV 10 (some 7) ((.bool false)) rfl rfl (by kernel_rfl) (by kernel_rfl) (by kernel_rfl) (fun _ _ _ h => h) (by rfl) (by (intro _w _hSw; (try dsimp only at _hSw); go_simp)) (by assumption) ?_
  simp only [Act.put, List.setIfInBounds_toArray, List.set_cons_zero, List.set_cons_succ]
  refine wpAnyH_done (by kernel_rfl) ?_ _
  obtain ⟨w2, hw2⟩ : ∃ w2, (w1.alloc (.cells #[.int .i64 4, .int .i64 0, .string ⟨#[]⟩] 24)).drew = w2 := ⟨_, rfl⟩
  have HV2 : Hid (ValAt w2 w1.heap.size 4 0 ⟨#[]⟩) := by rw [← hw2]; exact valAt_new w1 4 0 ⟨#[]⟩
  have HB2 : Hid (Below w1.heap.size w1 w2) := by rw [← hw2]; exact hHeld3
  have HB12 : Hid (Below W.heap.size W w2) := HB1.out.trans (HB2.out.mono HB1.out.size)
  rw [hw2]
  clear hw2 hHeld3 hw1
  have hR2 : Hid (ValAt w2 W.heap.size 0 0 ⟨#[]⟩) := HR1.out.next HB2.out HR1.out.lt
  have k0 := HV2.out.c0
  have k1 := HV2.out.c1
  have k2 := HV2.out.c2
  go_wp2_with fail
  refine (readString_any (B := B) A2 (cp - 1) t w2 (Nat.le_trans hBW HB12.out.size) (HA2.out.1.next HB12.out hBW) HA2.out.2 (by omega) (by unfold maxLen; omega) (by omega)).mono ?_
  rintro e w3 (⟨s, u, r, hT, rfl, hr, hb⟩ | ⟨hT, rfl, hb⟩)
  · have HT := Lib.hid hT
    have hsl := txtR_len hT
    have hsx : (⟨s.toArray⟩ : ByteArray).size ≤ maxLen := by show s.toArray.size ≤ _; unfold maxLen; simp; omega
    clear hT
    have hv3 := HV2.out.next hb HV2.out.lt
    have hr3 := hR2.out.next hb hR2.out.lt
    have f2 := hv3.fz 2
    have g0 := hv3.c0
    have g1 := hv3.c1
    have g2 := hv3.c2
    have HV4 := Lib.hid (hv3.set2 ⟨s.toArray⟩)
    have HR4 := Lib.hid (hr3.far (j := 2) HNE.out (.string ⟨s.toArray⟩))
    clear k0 k1 k2
    go_wp2_with fail
    obtain ⟨w4, hw4⟩ : ∃ w4, w3.setCell ⟨w1.heap.size, 2, none⟩ (.string ⟨s.toArray⟩) = w4 := ⟨_, rfl⟩
    have hb3 := HB12.out.trans (hb.mono HB12.out.size)
    have HB4 : Hid (Below W.heap.size W w4) := by
      rw [← hw4]
      exact hb3.setCell (p := ⟨w1.heap.size, 2, none⟩) HB1.out.size _
    have hr4 : Rest w4.drew B r u := by
      rw [← hw4]
      obtain ⟨X, x, ex, hx, h1, h2⟩ := hr.next ((Below.refl W.heap.size _).setCell (p := ⟨w1.heap.size, 2, none⟩) HB1.out.size (.string ⟨s.toArray⟩)) hBW
      exact ⟨X, x, ex, hx.next (below_dr (Below.refl W.heap.size _)) hBW, h1, h2⟩
    rw [hw4] at HV4 HR4
    rw [hw4]
    clear hw4 f2 g0 g1 g2 hv3 hr3 hb3 hb
    cases hm : mayB 4 0 ⟨s.toArray⟩
    · have HM := Lib.hid hm
      clear hm
      refine wp_region_held_drew (S := fun W' => ValAt W' w1.heap.size 4 0 ⟨s.toArray⟩) (by kernel_rfl) HV4.out.dr (fun hHeld => ?_)
      refine takeV 0 (some 52) ((.agg #[.int .i64 4, .int .i64 0, .string ⟨s.toArray⟩])) rfl rfl (by kernel_rfl) (by kernel_rfl) (by kernel_rfl) (fun _ _ _ h => h) (by rfl) (by (intro _w hSw; have q0 := ValAt.c0 hSw; have q1 := ValAt.c1 hSw; have q2 := ValAt.c2 hSw; clear hSw; go_simp)) (by assumption) ?_
      simp only [Act.put, List.setIfInBounds_toArray, List.set_cons_zero, List.set_cons_succ]
      refine takeV 1 (some 53) ((r)) rfl rfl (by kernel_rfl) (by kernel_rfl) (by kernel_rfl) (fun _ _ _ h => h) (by rfl) (by (intro _w _hSw; (try dsimp only at _hSw); go_simp)) (by assumption) ?_
      simp only [Act.put, List.setIfInBounds_toArray, List.set_cons_zero, List.set_cons_succ]
      refine takeV 2 (some 54) ((.bool true)) rfl rfl (by kernel_rfl) (by kernel_rfl) (by kernel_rfl) (fun _ _ _ h => h) (by rfl) (by (intro _w _hSw; (try dsimp only at _hSw); go_simp)) (by assumption) ?_
      simp only [Act.put, List.setIfInBounds_toArray, List.set_cons_zero, List.set_cons_succ]
      refine takeV 3 (some 55) ((.bool true)) rfl rfl (by kernel_rfl) (by kernel_rfl) (by kernel_rfl) (fun _ _ _ h => h) (by rfl) (by (intro _w _hSw; (try dsimp only at _hSw); go_simp)) (by assumption) ?_
      simp only [Act.put, List.setIfInBounds_toArray, List.set_cons_zero, List.set_cons_succ]
      refine takeV 4 (some 56) ((.agg #[.int .i64 4, .int .i64 0, .string ⟨s.toArray⟩])) rfl rfl (by kernel_rfl) (by kernel_rfl) (by kernel_rfl) (fun _ _ _ h => h) (by rfl) (by (intro _w hSw; have q0 := ValAt.c0 hSw; have q1 := ValAt.c1 hSw; have q2 := ValAt.c2 hSw; clear hSw; go_simp)) (by assumption) ?_
      simp only [Act.put, List.setIfInBounds_toArray, List.set_cons_zero, List.set_cons_succ]
      refine callV 5 rfl (by kernel_rfl) (by rfl) (fun K hK => ?_)
      go_simp
      go_at_call 61
      refine (check_no _ hsx HM.out).mono ?_
      rintro e w5 ⟨rfl, hb5⟩
      have hR5 := HR4.out.dr.next hb5 HR4.out.dr.lt
      have HX5 : Hid True := trivial
      have HB5 := Lib.hid ((below_dr HB4.out).trans (hb5.mono HB4.out.size))
      refine hK.out _ _ (ValAt.next hHeld hb5 (ValAt.lt hHeld)) (fun hHeld5 => ?_)
      clear hK K hHeld hb5
      try simp only [Act.put, List.setIfInBounds_toArray, List.set_cons_zero, List.set_cons_succ]
      refine takeV 6 (some 58) ((.bool false)) rfl rfl (by kernel_rfl) (by kernel_rfl) (by kernel_rfl) (fun _ _ _ h => h) (by rfl) (by (intro _w _hSw; (try dsimp only at _hSw); go_simp)) (by assumption) ?_
      simp only [Act.put, List.setIfInBounds_toArray, List.set_cons_zero, List.set_cons_succ]
      refine takeV 7 (some 59) ((.bool false)) rfl rfl (by kernel_rfl) (by kernel_rfl) (by kernel_rfl) (fun _ _ _ h => h) (by rfl) (by (intro _w _hSw; (try dsimp only at _hSw); go_simp)) (by assumption) ?_
      simp only [Act.put, List.setIfInBounds_toArray, List.set_cons_zero, List.set_cons_succ]
      have g0 := hR5.c0
      have g1 := hR5.c1
      have g2 := hR5.c2
      have z0 := hR5.fz 0
      have z1 := hR5.fz 1
      have z2 := hR5.fz 2
      have hF := ((hR5.set0 4).set1 0).set2 ⟨s.toArray⟩
      have HF := Lib.hid hF
      refine callV 8 rfl (by kernel_rfl) (by rfl) (fun K hK => ?_)
      go_simp
      refine hK.out _ _ (ValAt.far (ValAt.far (ValAt.far hHeld5 HNE.out.symm _) HNE.out.symm _) HNE.out.symm _) (fun hHeld6 => ?_)
      clear hK K g0 g1 g2 z0 z1 z2 hR5 hF
      try simp only [Act.put, List.setIfInBounds_toArray, List.set_cons_zero, List.set_cons_succ]
      refine takeV 9 (some 3) ((r)) rfl rfl (by kernel_rfl) (by kernel_rfl) (by kernel_rfl) (fun _ _ _ h => h) (by rfl) (by (intro _w _hSw; (try dsimp only at _hSw); go_simp)) (by assumption) ?_
      simp only [Act.put, List.setIfInBounds_toArray, List.set_cons_zero, List.set_cons_succ]
      refine takeV 10 (some 4) ((.bool false)) rfl rfl (by kernel_rfl) (by kernel_rfl) (by kernel_rfl) (fun _ _ _ h => h) (by rfl) (by (intro _w _hSw; (try dsimp only at _hSw); go_simp)) (by assumption) ?_
      simp only [Act.put, List.setIfInBounds_toArray, List.set_cons_zero, List.set_cons_succ]
      refine wpAnyH_done (by kernel_rfl) ?_ _
      have g0 := HF.out.c0
      have g1 := HF.out.c1
      have g2 := HF.out.c2
      go_wp2
      refine bodyPost_ret (v := .tuple #[valV 4 0 ⟨s.toArray⟩, r, .bool false]) ?_ rfl ?_
      · rw [results_cell_tmp2 rfl]
        unfold valV
        go_simp
      · refine ⟨.inr ⟨(by first | (rw [hk]; exact oneR_txt_no (.inr (.inl rfl)) HT.out HM.out) | exact oneR_txt_no (.inr (.inl rfl)) HT.out HM.out), _, _, _, _, rfl⟩, ((HB5.out.setCell (p := ⟨W.heap.size, 0, none⟩) (Nat.le_refl _) _).setCell (p := ⟨W.heap.size, 1, none⟩) (Nat.le_refl _) _).setCell (p := ⟨W.heap.size, 2, none⟩) (Nat.le_refl _) _⟩
    · have HM := Lib.hid hm
      clear hm
      refine wp_region_held_drew (S := fun W' => ValAt W' w1.heap.size 4 0 ⟨s.toArray⟩) (by kernel_rfl) HV4.out.dr (fun hHeld => ?_)
      refine takeV 0 (some 52) ((.agg #[.int .i64 4, .int .i64 0, .string ⟨s.toArray⟩])) rfl rfl (by kernel_rfl) (by kernel_rfl) (by kernel_rfl) (fun _ _ _ h => h) (by rfl) (by (intro _w hSw; have q0 := ValAt.c0 hSw; have q1 := ValAt.c1 hSw; have q2 := ValAt.c2 hSw; clear hSw; go_simp)) (by assumption) ?_
      simp only [Act.put, List.setIfInBounds_toArray, List.set_cons_zero, List.set_cons_succ]
      refine takeV 1 (some 53) ((r)) rfl rfl (by kernel_rfl) (by kernel_rfl) (by kernel_rfl) (fun _ _ _ h => h) (by rfl) (by (intro _w _hSw; (try dsimp only at _hSw); go_simp)) (by assumption) ?_
      simp only [Act.put, List.setIfInBounds_toArray, List.set_cons_zero, List.set_cons_succ]
      refine takeV 2 (some 54) ((.bool true)) rfl rfl (by kernel_rfl) (by kernel_rfl) (by kernel_rfl) (fun _ _ _ h => h) (by rfl) (by (intro _w _hSw; (try dsimp only at _hSw); go_simp)) (by assumption) ?_
      simp only [Act.put, List.setIfInBounds_toArray, List.set_cons_zero, List.set_cons_succ]
      refine takeV 3 (some 55) ((.bool true)) rfl rfl (by kernel_rfl) (by kernel_rfl) (by kernel_rfl) (fun _ _ _ h => h) (by rfl) (by (intro _w _hSw; (try dsimp only at _hSw); go_simp)) (by assumption) ?_
      simp only [Act.put, List.setIfInBounds_toArray, List.set_cons_zero, List.set_cons_succ]
      refine takeV 4 (some 56) ((.agg #[.int .i64 4, .int .i64 0, .string ⟨s.toArray⟩])) rfl rfl (by kernel_rfl) (by kernel_rfl) (by kernel_rfl) (fun _ _ _ h => h) (by rfl) (by (intro _w hSw; have q0 := ValAt.c0 hSw; have q1 := ValAt.c1 hSw; have q2 := ValAt.c2 hSw; clear hSw; go_simp)) (by assumption) ?_
      simp only [Act.put, List.setIfInBounds_toArray, List.set_cons_zero, List.set_cons_succ]
      refine callV 5 rfl (by kernel_rfl) (by rfl) (fun K hK => ?_)
      go_simp
      go_at_call 61
      refine (check_yes _ hsx HM.out).mono ?_
      rintro e w5 ⟨rfl, hb5⟩
      have hR5 := HR4.out.dr.next hb5 HR4.out.dr.lt
      have HX5 := Lib.hid (hr4.next (hb5.mono HB4.out.size) hBW)
      have HB5 := Lib.hid ((below_dr HB4.out).trans (hb5.mono HB4.out.size))
      refine hK.out _ _ (ValAt.next hHeld hb5 (ValAt.lt hHeld)) (fun hHeld5 => ?_)
      clear hK K hHeld hb5
      try simp only [Act.put, List.setIfInBounds_toArray, List.set_cons_zero, List.set_cons_succ]
      refine takeV 6 (some 58) ((.bool true)) rfl rfl (by kernel_rfl) (by kernel_rfl) (by kernel_rfl) (fun _ _ _ h => h) (by rfl) (by (intro _w _hSw; (try dsimp only at _hSw); go_simp)) (by assumption) ?_
      simp only [Act.put, List.setIfInBounds_toArray, List.set_cons_zero, List.set_cons_succ]
      refine takeV 7 (some 59) ((.bool true)) rfl rfl (by kernel_rfl) (by kernel_rfl) (by kernel_rfl) (fun _ _ _ h => h) (by rfl) (by (intro _w _hSw; (try dsimp only at _hSw); go_simp)) (by assumption) ?_
      simp only [Act.put, List.setIfInBounds_toArray, List.set_cons_zero, List.set_cons_succ]
      have g0 := hR5.c0
      have g1 := hR5.c1
      have g2 := hR5.c2
      have z0 := hR5.fz 0
      have z1 := hR5.fz 1
      have z2 := hR5.fz 2
      have hF := ((hR5.set0 4).set1 0).set2 ⟨s.toArray⟩
      have HF := Lib.hid hF
      refine callV 8 rfl (by kernel_rfl) (by rfl) (fun K hK => ?_)
      go_simp
      refine hK.out _ _ (ValAt.far (ValAt.far (ValAt.far hHeld5 HNE.out.symm _) HNE.out.symm _) HNE.out.symm _) (fun hHeld6 => ?_)
      clear hK K g0 g1 g2 z0 z1 z2 hR5 hF
      try simp only [Act.put, List.setIfInBounds_toArray, List.set_cons_zero, List.set_cons_succ]
      refine takeV 9 (some 3) ((r)) rfl rfl (by kernel_rfl) (by kernel_rfl) (by kernel_rfl) (fun _ _ _ h => h) (by rfl) (by (intro _w _hSw; (try dsimp only at _hSw); go_simp)) (by assumption) ?_
      simp only [Act.put, List.setIfInBounds_toArray, List.set_cons_zero, List.set_cons_succ]
      refine takeV 10 (some 4) ((.bool true)) rfl rfl (by kernel_rfl) (by kernel_rfl) (by kernel_rfl) (fun _ _ _ h => h) (by rfl) (by (intro _w _hSw; (try dsimp only at _hSw); go_simp)) (by assumption) ?_
      simp only [Act.put, List.setIfInBounds_toArray, List.set_cons_zero, List.set_cons_succ]
      refine wpAnyH_done (by kernel_rfl) ?_ _
      have g0 := HF.out.c0
      have g1 := HF.out.c1
      have g2 := HF.out.c2
      go_wp2
      refine bodyPost_ret (v := .tuple #[valV 4 0 ⟨s.toArray⟩, r, .bool true]) ?_ rfl ?_
      · rw [results_cell_tmp2 rfl]
        unfold valV
        go_simp
      · refine ⟨.inl ⟨_, _, s, u, r, (by first | (rw [hk]; exact oneR_txt_yes (.inr (.inl rfl)) HT.out HM.out) | exact oneR_txt_yes (.inr (.inl rfl)) HT.out HM.out), rfl, ?_⟩, ((HB5.out.setCell (p := ⟨W.heap.size, 0, none⟩) (Nat.le_refl _) _).setCell (p := ⟨W.heap.size, 1, none⟩) (Nat.le_refl _) _).setCell (p := ⟨W.heap.size, 2, none⟩) (Nat.le_refl _) _⟩
        exact ((HX5.out.next ((Below.refl W.heap.size _).setCell (p := ⟨W.heap.size, 0, none⟩) (Nat.le_refl _) _) hBW).next ((Below.refl W.heap.size _).setCell (p := ⟨W.heap.size, 1, none⟩) (Nat.le_refl _) _) hBW).next ((Below.refl W.heap.size _).setCell (p := ⟨W.heap.size, 2, none⟩) (Nat.le_refl _) _) hBW
  · have HT := Lib.hid hT
    clear hT
    have hv3 := HV2.out.next hb HV2.out.lt
    have hr3 := hR2.out.next hb hR2.out.lt
    have f2 := hv3.fz 2
    have g0 := hv3.c0
    have g1 := hv3.c1
    have g2 := hv3.c2
    have HV4 := Lib.hid (hv3.set2 ⟨#[]⟩)
    have HR4 := Lib.hid (hr3.far (j := 2) HNE.out (.string ⟨#[]⟩))
    clear k0 k1 k2
    go_wp2_with fail
    obtain ⟨w4, hw4⟩ : ∃ w4, w3.setCell ⟨w1.heap.size, 2, none⟩ (.string ⟨#[]⟩) = w4 := ⟨_, rfl⟩
    have hb3 := HB12.out.trans (hb.mono HB12.out.size)
    have HB4 : Hid (Below W.heap.size W w4) := by
      rw [← hw4]
      exact hb3.setCell (p := ⟨w1.heap.size, 2, none⟩) HB1.out.size _
    rw [hw4] at HV4 HR4
    rw [hw4]
    clear hw4 f2 g0 g1 g2 hv3 hr3 hb3 hb
    refine wp_region_held_drew (S := fun W' => ValAt W' w1.heap.size 4 0 ⟨#[]⟩) (by kernel_rfl) HV4.out.dr (fun hHeld => ?_)
    refine takeV 0 (some 52) ((.agg #[.int .i64 4, .int .i64 0, .string ⟨#[]⟩])) rfl rfl (by kernel_rfl) (by kernel_rfl) (by kernel_rfl) (fun _ _ _ h => h) (by rfl) (by (intro _w hSw; have q0 := ValAt.c0 hSw; have q1 := ValAt.c1 hSw; have q2 := ValAt.c2 hSw; clear hSw; go_simp)) (by assumption) ?_
    simp only [Act.put, List.setIfInBounds_toArray, List.set_cons_zero, List.set_cons_succ]
    refine takeV 1 (some 53) ((.slice none 0 0)) rfl rfl (by kernel_rfl) (by kernel_rfl) (by kernel_rfl) (fun _ _ _ h => h) (by rfl) (by (intro _w _hSw; (try dsimp only at _hSw); go_simp)) (by assumption) ?_
    simp only [Act.put, List.setIfInBounds_toArray, List.set_cons_zero, List.set_cons_succ]
    refine takeV 2 (some 54) ((.bool false)) rfl rfl (by kernel_rfl) (by kernel_rfl) (by kernel_rfl) (fun _ _ _ h => h) (by rfl) (by (intro _w _hSw; (try dsimp only at _hSw); go_simp)) (by assumption) ?_
    simp only [Act.put, List.setIfInBounds_toArray, List.set_cons_zero, List.set_cons_succ]
    refine takeV 3 (some 55) ((.bool false)) rfl rfl (by kernel_rfl) (by kernel_rfl) (by kernel_rfl) (fun _ _ _ h => h) (by rfl) (by (intro _w _hSw; (try dsimp only at _hSw); go_simp)) (by assumption) ?_
    simp only [Act.put, List.setIfInBounds_toArray, List.set_cons_zero, List.set_cons_succ]
    have hHeld5 := HV4.out
    have hR5 := HR4.out
    have HB5 := HB4
    refine skipV 4 (some 56) rfl rfl (by kernel_rfl) (by kernel_rfl) (by kernel_rfl) (fun _ _ _ h => h) (by rfl) (by assumption) ?_
    simp only [Act.put, List.setIfInBounds_toArray, List.set_cons_zero, List.set_cons_succ]
    refine skipV 5 (some 57) rfl rfl (by kernel_rfl) (by kernel_rfl) (by kernel_rfl) (fun _ _ _ h => h) (by rfl) (by assumption) ?_
    simp only [Act.put, List.setIfInBounds_toArray, List.set_cons_zero, List.set_cons_succ]
    refine skipV 6 (some 58) rfl rfl (by kernel_rfl) (by kernel_rfl) (by kernel_rfl) (fun _ _ _ h => h) (by rfl) (by assumption) ?_
    simp only [Act.put, List.setIfInBounds_toArray, List.set_cons_zero, List.set_cons_succ]
    refine takeV 7 (some 59) ((.bool false)) rfl rfl (by kernel_rfl) (by kernel_rfl) (by kernel_rfl) (fun _ _ _ h => h) (by rfl) (by (intro _w _hSw; (try dsimp only at _hSw); go_simp)) (by assumption) ?_
    simp only [Act.put, List.setIfInBounds_toArray, List.set_cons_zero, List.set_cons_succ]
    have g0 := hR5.c0
    have g1 := hR5.c1
    have g2 := hR5.c2
    have z0 := hR5.fz 0
    have z1 := hR5.fz 1
    have z2 := hR5.fz 2
    have hF := ((hR5.set0 4).set1 0).set2 ⟨#[]⟩
    have HF := Lib.hid hF
    refine callV 8 rfl (by kernel_rfl) (by rfl) (fun K hK => ?_)
    go_simp
    refine hK.out _ _ (ValAt.dr (ValAt.far (ValAt.far (ValAt.far hHeld5 HNE.out.symm _) HNE.out.symm _) HNE.out.symm _)) (fun hHeld6 => ?_)
    clear hK K g0 g1 g2 z0 z1 z2 hR5 hF
    try simp only [Act.put, List.setIfInBounds_toArray, List.set_cons_zero, List.set_cons_succ]
    refine takeV 9 (some 3) ((.slice none 0 0)) rfl rfl (by kernel_rfl) (by kernel_rfl) (by kernel_rfl) (fun _ _ _ h => h) (by rfl) (by (intro _w _hSw; (try dsimp only at _hSw); go_simp)) (by assumption) ?_
    simp only [Act.put, List.setIfInBounds_toArray, List.set_cons_zero, List.set_cons_succ]
    refine takeV 10 (some 4) ((.bool false)) rfl rfl (by kernel_rfl) (by kernel_rfl) (by kernel_rfl) (fun _ _ _ h => h) (by rfl) (by (intro _w _hSw; (try dsimp only at _hSw); go_simp)) (by assumption) ?_
    simp only [Act.put, List.setIfInBounds_toArray, List.set_cons_zero, List.set_cons_succ]
    refine wpAnyH_done (by kernel_rfl) ?_ _
    have g0 := HF.out.c0
    have g1 := HF.out.c1
    have g2 := HF.out.c2
    go_wp2
    refine bodyPost_ret (v := .tuple #[valV 4 0 ⟨#[]⟩, .slice none 0 0, .bool false]) ?_ rfl ?_
    · rw [results_cell_tmp2 rfl]
      unfold valV
      go_simp
    · refine ⟨.inr ⟨(by first | (rw [hk]; exact oneR_txt_none (.inr (.inl rfl)) HT.out) | exact oneR_txt_none (.inr (.inl rfl)) HT.out), _, _, _, _, rfl⟩, below_dr (((HB5.out.setCell (p := ⟨W.heap.size, 0, none⟩) (Nat.le_refl _) _).setCell (p := ⟨W.heap.size, 1, none⟩) (Nat.le_refl _) _).setCell (p := ⟨W.heap.size, 2, none⟩) (Nat.le_refl _) _)⟩

set_option maxRecDepth 100000 in
set_option maxHeartbeats 2000000 in
theorem readValue_5 (a : Addr) (cp : Nat) (c : UInt8) (t : List UInt8) (W : World) (B : Nat) (hBW : B ≤ W.heap.size) (hs : SlB W B (some a) (c :: t)) (hlc : t.length + 1 ≤ cp) (hc : cp ≤ maxLen) (_hl : t.length ≤ 10000) (hk : c = 5) :
    Calls Try.prog 110 #[.slice (some a) (t.length + 1) cp] W (ValRd W B (c :: t)) := by
  unfold maxLen at hc
  have hck : (c.toNat : Int) = 5 := by rw [hk]; rfl
  have hal : a.block < W.heap.size := by
    obtain ⟨a', e, h, _⟩ := hs (by simp)
    injection e with e; subst e; omega
  have HCL : Hid (W.cell? a = some (.int .u8 c.toNat)) := by
    obtain ⟨a', e, _, h⟩ := hs (by simp)
    injection e with e; subst e
    have := h 0 c rfl
    rwa [add_zero'] at this
  have HS := Lib.hid hs
  clear hs
  obtain ⟨A2, hA2⟩ : ∃ A2, (if cp = 1 then some a else some ⟨a.block, a.off + 1, none⟩) = A2 := ⟨_, rfl⟩
  have HA2 : Hid (SlB W B A2 t ∧ (A2 = none → cp - 1 = 0)) := by
    have := HS.out.cut (show (c :: t).length ≤ cp from hlc) 1
    rw [hA2] at this
    exact ⟨this, fun h => by rw [← hA2] at h; split at h <;> cases h⟩
  go_enter Try.func110, Try.ntmps110
  go_wp2_with fail
  obtain ⟨w1, hw1⟩ : ∃ w1, W.alloc (.cells #[.int .i64 0, .int .i64 0, .string ⟨#[]⟩] 24) = w1 := ⟨_, rfl⟩
  have HB1 : Hid (Below W.heap.size W w1) := by rw [← hw1]; exact (Below.refl _ _).alloc (Nat.le_refl _) _
  have HR1 : Hid (ValAt w1 W.heap.size 0 0 ⟨#[]⟩) := by rw [← hw1]; exact valAt_new W 0 0 ⟨#[]⟩
  have HNE : Hid (W.heap.size ≠ w1.heap.size) := by show _ ≠ _; rw [← hw1]; simp
  rw [hw1]
  have hwk : IntKind.i64.wrap 5 = 5 := by decide
  have hn1 : ¬ ((t.length : Int) + 1 < 1) := by omega
  have hln : (0 : Int) < (t.length : Int) + 1 := by omega
  refine wp_region_held_drew (S := fun W' => Below w1.heap.size w1 W') (by kernel_rfl) ((Below.refl _ w1).drew) (fun hHeld => ?_)
  refine takeV 0 (some 12) ((.slice (some a) (t.length + 1) cp)) rfl rfl (by kernel_rfl) (by kernel_rfl) (by kernel_rfl) (fun _ _ _ h => h) (by rfl) (by (intro _w _hSw; (try dsimp only at _hSw); go_simp)) (by assumption) ?_
  simp only [Act.put, List.setIfInBounds_toArray, List.set_cons_zero, List.set_cons_succ]
  refine takeV 1 (some 13) ((.pointer (some a))) rfl rfl (by kernel_rfl) (by kernel_rfl) (by kernel_rfl) (fun _ _ _ h => h) (by rfl) (by (intro _w _hSw; (try dsimp only at _hSw); go_simp)) (by assumption) ?_
  simp only [Act.put, List.setIfInBounds_toArray, List.set_cons_zero, List.set_cons_succ]
  refine takeV 2 (some 14) ((.int .u8 c.toNat)) rfl rfl (by kernel_rfl) (by kernel_rfl) (by kernel_rfl) (fun _ _ _ h => h) (by rfl) (by (intro _w hSw; have q1 := (hSw.cell (p := a) (Nat.lt_of_lt_of_le hal HB1.out.size)).trans ((HB1.out.cell (p := a) hal).trans HCL.out); clear hSw; go_simp)) (by assumption) ?_
  simp only [Act.put, List.setIfInBounds_toArray, List.set_cons_zero, List.set_cons_succ]
  refine takeV 3 (some 15) ((.int .i64 5)) rfl rfl (by kernel_rfl) (by kernel_rfl) (by kernel_rfl) (fun _ _ _ h => h) (by rfl) (by (intro _w _hSw; (try dsimp only at _hSw); go_simp)) (by assumption) ?_
  simp only [Act.put, List.setIfInBounds_toArray, List.set_cons_zero, List.set_cons_succ]
  refine takeV 4 (some 16) ((.agg #[.int .i64 5, .int .i64 0, .string ⟨#[]⟩])) rfl rfl (by kernel_rfl) (by kernel_rfl) (by kernel_rfl) (fun _ _ _ h => h) (by rfl) (by (intro _w _hSw; (try dsimp only at _hSw); go_simp)) (by assumption) ?_
  simp only [Act.put, List.setIfInBounds_toArray, List.set_cons_zero, List.set_cons_succ]
  refine takeV 5 (some 17) ((.slice (some a) (t.length + 1) cp)) rfl rfl (by kernel_rfl) (by kernel_rfl) (by kernel_rfl) (fun _ _ _ h => h) (by rfl) (by (intro _w _hSw; (try dsimp only at _hSw); go_simp)) (by assumption) ?_
  simp only [Act.put, List.setIfInBounds_toArray, List.set_cons_zero, List.set_cons_succ]
  refine takeV 6 (some 18) ((.slice A2 t.length (cp - 1))) rfl rfl (by kernel_rfl) (by kernel_rfl) (by kernel_rfl) (fun _ _ _ h => h) (by rfl) (by (intro _w hSw; clear hHeld; clear hSw; go_simp)) (by assumption) ?_
  simp only [Act.put, List.setIfInBounds_toArray, List.set_cons_zero, List.set_cons_succ]
  refine callV 7 rfl (by kernel_rfl) (by rfl) (fun K hK => ?_)
  go_simp
  refine hK.out _ _ (below_dr ((Below.refl _ w1).alloc (Nat.le_refl _) _)) (fun hHeld2 => ?_)
  clear hK K hHeld
  try simp only [Act.put, List.setIfInBounds_toArray, List.set_cons_zero, List.set_cons_succ]
  refine callV 8 rfl (by kernel_rfl) (by rfl) (fun K hK => ?_)
  go_simp
  refine hK.out _ _ (below_dr ((Below.refl _ w1).alloc (Nat.le_refl _) _)) (fun hHeld3 => ?_)
  clear hK K hHeld2
  try simp only [Act.put, List.setIfInBounds_toArray, List.set_cons_zero, List.set_cons_succ]
  refine takeV 9 (some 6) ((.slice A2 t.length (cp - 1))) rfl rfl (by kernel_rfl) (by kernel_rfl) (by kernel_rfl) (fun _ _ _ h => h) (by rfl) (by (intro _w _hSw; (try dsimp only at _hSw); go_simp)) (by assumption) ?_
  simp only [Act.put, List.setIfInBounds_toArray, List.set_cons_zero, List.set_cons_succ]
  refine takeV 10 (some 7) ((.bool false)) rfl rfl (by kernel_rfl) (by kernel_rfl) (by kernel_rfl) (fun _ _ _ h => h) (by rfl) (by (intro _w _hSw; (try dsimp only at _hSw); go_simp)) (by assumption) ?_
  simp only [Act.put, List.setIfInBounds_toArray, List.set_cons_zero, List.set_cons_succ]
  refine wpAnyH_done (by kernel_rfl) ?_ _
  obtain ⟨w2, hw2⟩ : ∃ w2, (w1.alloc (.cells #[.int .i64 5, .int .i64 0, .string ⟨#[]⟩] 24)).drew = w2 := ⟨_, rfl⟩
  have HV2 : Hid (ValAt w2 w1.heap.size 5 0 ⟨#[]⟩) := by rw [← hw2]; exact valAt_new w1 5 0 ⟨#[]⟩
  have HB2 : Hid (Below w1.heap.size w1 w2) := by rw [← hw2]; exact hHeld3
  have HB12 : Hid (Below W.heap.size W w2) := HB1.out.trans (HB2.out.mono HB1.out.size)
  rw [hw2]
  clear hw2 hHeld3 hw1
  have hR2 : Hid (ValAt w2 W.heap.size 0 0 ⟨#[]⟩) := HR1.out.next HB2.out HR1.out.lt
  have k0 := HV2.out.c0
  have k1 := HV2.out.c1
  have k2 := HV2.out.c2
  go_wp2_with fail
  refine (readNumber_any A2 (cp - 1) t w2 B (Nat.le_trans hBW HB12.out.size) (HA2.out.1.next HB12.out hBW) (by omega) (by unfold maxLen; omega)).mono ?_
  rintro e w3 (⟨hT, ⟨r, rfl, hr⟩, hb⟩ | ⟨hT, rfl, hb⟩)
  · have HT := Lib.hid hT
    have hsx : (⟨#[]⟩ : ByteArray).size ≤ maxLen := by decide
    clear hT
    have hv3 := HV2.out.next hb HV2.out.lt
    have hr3 := hR2.out.next hb hR2.out.lt
    have f2 := hv3.fz 1
    have g0 := hv3.c0
    have g1 := hv3.c1
    have g2 := hv3.c2
    have HV4 := Lib.hid (hv3.set1 (numR t))
    have HR4 := Lib.hid (hr3.far (j := 1) HNE.out (.int .i64 (numR t)))
    clear k0 k1 k2
    go_wp2_with fail
    obtain ⟨w4, hw4⟩ : ∃ w4, w3.setCell ⟨w1.heap.size, 1, none⟩ (.int .i64 (numR t)) = w4 := ⟨_, rfl⟩
    have hb3 := HB12.out.trans (hb.mono HB12.out.size)
    have HB4 : Hid (Below W.heap.size W w4) := by
      rw [← hw4]
      exact hb3.setCell (p := ⟨w1.heap.size, 1, none⟩) HB1.out.size _
    have hr4 : Rest w4.drew B r (t.drop 8) := by
      rw [← hw4]
      obtain ⟨X, x, ex, hx, h1, h2⟩ := hr.next ((Below.refl W.heap.size _).setCell (p := ⟨w1.heap.size, 1, none⟩) HB1.out.size (.int .i64 (numR t))) hBW
      exact ⟨X, x, ex, hx.next (below_dr (Below.refl W.heap.size _)) hBW, h1, h2⟩
    rw [hw4] at HV4 HR4
    rw [hw4]
    clear hw4 f2 g0 g1 g2 hv3 hr3 hb3 hb
    cases hm : mayB 5 (numR t) ⟨#[]⟩
    · have HM := Lib.hid hm
      clear hm
      refine wp_region_held_drew (S := fun W' => ValAt W' w1.heap.size 5 (numR t) ⟨#[]⟩) (by kernel_rfl) HV4.out.dr (fun hHeld => ?_)
      refine takeV 0 (some 52) ((.agg #[.int .i64 5, .int .i64 (numR t), .string ⟨#[]⟩])) rfl rfl (by kernel_rfl) (by kernel_rfl) (by kernel_rfl) (fun _ _ _ h => h) (by rfl) (by (intro _w hSw; have q0 := ValAt.c0 hSw; have q1 := ValAt.c1 hSw; have q2 := ValAt.c2 hSw; clear hSw; go_simp)) (by assumption) ?_
      simp only [Act.put, List.setIfInBounds_toArray, List.set_cons_zero, List.set_cons_succ]
      refine takeV 1 (some 53) ((r)) rfl rfl (by kernel_rfl) (by kernel_rfl) (by kernel_rfl) (fun _ _ _ h => h) (by rfl) (by (intro _w _hSw; (try dsimp only at _hSw); go_simp)) (by assumption) ?_
      simp only [Act.put, List.setIfInBounds_toArray, List.set_cons_zero, List.set_cons_succ]
      refine takeV 2 (some 54) ((.bool true)) rfl rfl (by kernel_rfl) (by kernel_rfl) (by kernel_rfl) (fun _ _ _ h => h) (by rfl) (by (intro _w _hSw; (try dsimp only at _hSw); go_simp)) (by assumption) ?_
      simp only [Act.put, List.setIfInBounds_toArray, List.set_cons_zero, List.set_cons_succ]
      refine takeV 3 (some 55) ((.bool true)) rfl rfl (by kernel_rfl) (by kernel_rfl) (by kernel_rfl) (fun _ _ _ h => h) (by rfl) (by (intro _w _hSw; (try dsimp only at _hSw); go_simp)) (by assumption) ?_
      simp only [Act.put, List.setIfInBounds_toArray, List.set_cons_zero, List.set_cons_succ]
      refine takeV 4 (some 56) ((.agg #[.int .i64 5, .int .i64 (numR t), .string ⟨#[]⟩])) rfl rfl (by kernel_rfl) (by kernel_rfl) (by kernel_rfl) (fun _ _ _ h => h) (by rfl) (by (intro _w hSw; have q0 := ValAt.c0 hSw; have q1 := ValAt.c1 hSw; have q2 := ValAt.c2 hSw; clear hSw; go_simp)) (by assumption) ?_
      simp only [Act.put, List.setIfInBounds_toArray, List.set_cons_zero, List.set_cons_succ]
      refine callV 5 rfl (by kernel_rfl) (by rfl) (fun K hK => ?_)
      go_simp
      go_at_call 61
      refine (check_no _ hsx HM.out).mono ?_
      rintro e w5 ⟨rfl, hb5⟩
      have hR5 := HR4.out.dr.next hb5 HR4.out.dr.lt
      have HX5 : Hid True := trivial
      have HB5 := Lib.hid ((below_dr HB4.out).trans (hb5.mono HB4.out.size))
      refine hK.out _ _ (ValAt.next hHeld hb5 (ValAt.lt hHeld)) (fun hHeld5 => ?_)
      clear hK K hHeld hb5
      try simp only [Act.put, List.setIfInBounds_toArray, List.set_cons_zero, List.set_cons_succ]
      refine takeV 6 (some 58) ((.bool false)) rfl rfl (by kernel_rfl) (by kernel_rfl) (by kernel_rfl) (fun _ _ _ h => h) (by rfl) (by (intro _w _hSw; (try dsimp only at _hSw); go_simp)) (by assumption) ?_
      simp only [Act.put, List.setIfInBounds_toArray, List.set_cons_zero, List.set_cons_succ]
      refine takeV 7 (some 59) ((.bool false)) rfl rfl (by kernel_rfl) (by kernel_rfl) (by kernel_rfl) (fun _ _ _ h => h) (by rfl) (by (intro _w _hSw; (try dsimp only at _hSw); go_simp)) (by assumption) ?_
      simp only [Act.put, List.setIfInBounds_toArray, List.set_cons_zero, List.set_cons_succ]
      have g0 := hR5.c0
      have g1 := hR5.c1
      have g2 := hR5.c2
      have z0 := hR5.fz 0
      have z1 := hR5.fz 1
      have z2 := hR5.fz 2
      have hF := ((hR5.set0 5).set1 (numR t)).set2 ⟨#[]⟩
      have HF := Lib.hid hF
      refine callV 8 rfl (by kernel_rfl) (by rfl) (fun K hK => ?_)
      go_simp
      refine hK.out _ _ (ValAt.far (ValAt.far (ValAt.far hHeld5 HNE.out.symm _) HNE.out.symm _) HNE.out.symm _) (fun hHeld6 => ?_)
      clear hK K g0 g1 g2 z0 z1 z2 hR5 hF
      try simp only [Act.put, List.setIfInBounds_toArray, List.set_cons_zero, List.set_cons_succ]
      refine takeV 9 (some 3) ((r)) rfl rfl (by kernel_rfl) (by kernel_rfl) (by kernel_rfl) (fun _ _ _ h => h) (by rfl) (by (intro _w _hSw; (try dsimp only at _hSw); go_simp)) (by assumption) ?_
      simp only [Act.put, List.setIfInBounds_toArray, List.set_cons_zero, List.set_cons_succ]
      refine takeV 10 (some 4) ((.bool false)) rfl rfl (by kernel_rfl) (by kernel_rfl) (by kernel_rfl) (fun _ _ _ h => h) (by rfl) (by (intro _w _hSw; (try dsimp only at _hSw); go_simp)) (by assumption) ?_
      simp only [Act.put, List.setIfInBounds_toArray, List.set_cons_zero, List.set_cons_succ]
      refine wpAnyH_done (by kernel_rfl) ?_ _
      have g0 := HF.out.c0
      have g1 := HF.out.c1
      have g2 := HF.out.c2
      go_wp2
      refine bodyPost_ret (v := .tuple #[valV 5 (numR t) ⟨#[]⟩, r, .bool false]) ?_ rfl ?_
      · rw [results_cell_tmp2 rfl]
        unfold valV
        go_simp
      · refine ⟨.inr ⟨(by first | (rw [hk]; exact oneR_num_no (.inr (.inl rfl)) HM.out) | exact oneR_num_no (.inr (.inl rfl)) HM.out), _, _, _, _, rfl⟩, ((HB5.out.setCell (p := ⟨W.heap.size, 0, none⟩) (Nat.le_refl _) _).setCell (p := ⟨W.heap.size, 1, none⟩) (Nat.le_refl _) _).setCell (p := ⟨W.heap.size, 2, none⟩) (Nat.le_refl _) _⟩
    · have HM := Lib.hid hm
      clear hm
      refine wp_region_held_drew (S := fun W' => ValAt W' w1.heap.size 5 (numR t) ⟨#[]⟩) (by kernel_rfl) HV4.out.dr (fun hHeld => ?_)
      refine takeV 0 (some 52) ((.agg #[.int .i64 5, .int .i64 (numR t), .string ⟨#[]⟩])) rfl rfl (by kernel_rfl) (by kernel_rfl) (by kernel_rfl) (fun _ _ _ h => h) (by rfl) (by (intro _w hSw; have q0 := ValAt.c0 hSw; have q1 := ValAt.c1 hSw; have q2 := ValAt.c2 hSw; clear hSw; go_simp)) (by assumption) ?_
      simp only [Act.put, List.setIfInBounds_toArray, List.set_cons_zero, List.set_cons_succ]
      refine takeV 1 (some 53) ((r)) rfl rfl (by kernel_rfl) (by kernel_rfl) (by kernel_rfl) (fun _ _ _ h => h) (by rfl) (by (intro _w _hSw; (try dsimp only at _hSw); go_simp)) (by assumption) ?_
      simp only [Act.put, List.setIfInBounds_toArray, List.set_cons_zero, List.set_cons_succ]
      refine takeV 2 (some 54) ((.bool true)) rfl rfl (by kernel_rfl) (by kernel_rfl) (by kernel_rfl) (fun _ _ _ h => h) (by rfl) (by (intro _w _hSw; (try dsimp only at _hSw); go_simp)) (by assumption) ?_
      simp only [Act.put, List.setIfInBounds_toArray, List.set_cons_zero, List.set_cons_succ]
      refine takeV 3 (some 55) ((.bool true)) rfl rfl (by kernel_rfl) (by kernel_rfl) (by kernel_rfl) (fun _ _ _ h => h) (by rfl) (by (intro _w _hSw; (try dsimp only at _hSw); go_simp)) (by assumption) ?_
      simp only [Act.put, List.setIfInBounds_toArray, List.set_cons_zero, List.set_cons_succ]
      refine takeV 4 (some 56) ((.agg #[.int .i64 5, .int .i64 (numR t), .string ⟨#[]⟩])) rfl rfl (by kernel_rfl) (by kernel_rfl) (by kernel_rfl) (fun _ _ _ h => h) (by rfl) (by (intro _w hSw; have q0 := ValAt.c0 hSw; have q1 := ValAt.c1 hSw; have q2 := ValAt.c2 hSw; clear hSw; go_simp)) (by assumption) ?_
      simp only [Act.put, List.setIfInBounds_toArray, List.set_cons_zero, List.set_cons_succ]
      refine callV 5 rfl (by kernel_rfl) (by rfl) (fun K hK => ?_)
      go_simp
      go_at_call 61
      refine (check_yes _ hsx HM.out).mono ?_
      rintro e w5 ⟨rfl, hb5⟩
      have hR5 := HR4.out.dr.next hb5 HR4.out.dr.lt
      have HX5 := Lib.hid (hr4.next (hb5.mono HB4.out.size) hBW)
      have HB5 := Lib.hid ((below_dr HB4.out).trans (hb5.mono HB4.out.size))
      refine hK.out _ _ (ValAt.next hHeld hb5 (ValAt.lt hHeld)) (fun hHeld5 => ?_)
      clear hK K hHeld hb5
      try simp only [Act.put, List.setIfInBounds_toArray, List.set_cons_zero, List.set_cons_succ]
      refine takeV 6 (some 58) ((.bool true)) rfl rfl (by kernel_rfl) (by kernel_rfl) (by kernel_rfl) (fun _ _ _ h => h) (by rfl) (by (intro _w _hSw; (try dsimp only at _hSw); go_simp)) (by assumption) ?_
      simp only [Act.put, List.setIfInBounds_toArray, List.set_cons_zero, List.set_cons_succ]
      refine takeV 7 (some 59) ((.bool true)) rfl rfl (by kernel_rfl) (by kernel_rfl) (by kernel_rfl) (fun _ _ _ h => h) (by rfl) (by (intro _w _hSw; (try dsimp only at _hSw); go_simp)) (by assumption) ?_
      simp only [Act.put, List.setIfInBounds_toArray, List.set_cons_zero, List.set_cons_succ]
      have g0 := hR5.c0
      have g1 := hR5.c1
      have g2 := hR5.c2
      have z0 := hR5.fz 0
      have z1 := hR5.fz 1
      have z2 := hR5.fz 2
      have hF := ((hR5.set0 5).set1 (numR t)).set2 ⟨#[]⟩
      have HF := Lib.hid hF
      refine callV 8 rfl (by kernel_rfl) (by rfl) (fun K hK => ?_)
      go_simp
      refine hK.out _ _ (ValAt.far (ValAt.far (ValAt.far hHeld5 HNE.out.symm _) HNE.out.symm _) HNE.out.symm _) (fun hHeld6 => ?_)
      clear hK K g0 g1 g2 z0 z1 z2 hR5 hF
      try simp only [Act.put, List.setIfInBounds_toArray, List.set_cons_zero, List.set_cons_succ]
      refine takeV 9 (some 3) ((r)) rfl rfl (by kernel_rfl) (by kernel_rfl) (by kernel_rfl) (fun _ _ _ h => h) (by rfl) (by (intro _w _hSw; (try dsimp only at _hSw); go_simp)) (by assumption) ?_
      simp only [Act.put, List.setIfInBounds_toArray, List.set_cons_zero, List.set_cons_succ]
      refine takeV 10 (some 4) ((.bool true)) rfl rfl (by kernel_rfl) (by kernel_rfl) (by kernel_rfl) (fun _ _ _ h => h) (by rfl) (by (intro _w _hSw; (try dsimp only at _hSw); go_simp)) (by assumption) ?_
      simp only [Act.put, List.setIfInBounds_toArray, List.set_cons_zero, List.set_cons_succ]
      refine wpAnyH_done (by kernel_rfl) ?_ _
      have g0 := HF.out.c0
      have g1 := HF.out.c1
      have g2 := HF.out.c2
      go_wp2
      refine bodyPost_ret (v := .tuple #[valV 5 (numR t) ⟨#[]⟩, r, .bool true]) ?_ rfl ?_
      · rw [results_cell_tmp2 rfl]
        unfold valV
        go_simp
      · refine ⟨.inl ⟨_, _, [], _, r, (by first | (rw [hk]; exact oneR_num_yes (.inr (.inl rfl)) HT.out HM.out) | exact oneR_num_yes (.inr (.inl rfl)) HT.out HM.out), rfl, ?_⟩, ((HB5.out.setCell (p := ⟨W.heap.size, 0, none⟩) (Nat.le_refl _) _).setCell (p := ⟨W.heap.size, 1, none⟩) (Nat.le_refl _) _).setCell (p := ⟨W.heap.size, 2, none⟩) (Nat.le_refl _) _⟩
        exact ((HX5.out.next ((Below.refl W.heap.size _).setCell (p := ⟨W.heap.size, 0, none⟩) (Nat.le_refl _) _) hBW).next ((Below.refl W.heap.size _).setCell (p := ⟨W.heap.size, 1, none⟩) (Nat.le_refl _) _) hBW).next ((Below.refl W.heap.size _).setCell (p := ⟨W.heap.size, 2, none⟩) (Nat.le_refl _) _) hBW
  · have HT := Lib.hid hT
    clear hT
    have hv3 := HV2.out.next hb HV2.out.lt
    have hr3 := hR2.out.next hb hR2.out.lt
    have f2 := hv3.fz 1
    have g0 := hv3.c0
    have g1 := hv3.c1
    have g2 := hv3.c2
    have HV4 := Lib.hid (hv3.set1 0)
    have HR4 := Lib.hid (hr3.far (j := 1) HNE.out (.int .i64 0))
    clear k0 k1 k2
    go_wp2_with fail
    obtain ⟨w4, hw4⟩ : ∃ w4, w3.setCell ⟨w1.heap.size, 1, none⟩ (.int .i64 0) = w4 := ⟨_, rfl⟩
    have hb3 := HB12.out.trans (hb.mono HB12.out.size)
    have HB4 : Hid (Below W.heap.size W w4) := by
      rw [← hw4]
      exact hb3.setCell (p := ⟨w1.heap.size, 1, none⟩) HB1.out.size _
    rw [hw4] at HV4 HR4
    rw [hw4]
    clear hw4 f2 g0 g1 g2 hv3 hr3 hb3 hb
    refine wp_region_held_drew (S := fun W' => ValAt W' w1.heap.size 5 0 ⟨#[]⟩) (by kernel_rfl) HV4.out.dr (fun hHeld => ?_)
    refine takeV 0 (some 52) ((.agg #[.int .i64 5, .int .i64 0, .string ⟨#[]⟩])) rfl rfl (by kernel_rfl) (by kernel_rfl) (by kernel_rfl) (fun _ _ _ h => h) (by rfl) (by (intro _w hSw; have q0 := ValAt.c0 hSw; have q1 := ValAt.c1 hSw; have q2 := ValAt.c2 hSw; clear hSw; go_simp)) (by assumption) ?_
    simp only [Act.put, List.setIfInBounds_toArray, List.set_cons_zero, List.set_cons_succ]
    refine takeV 1 (some 53) ((.slice none 0 0)) rfl rfl (by kernel_rfl) (by kernel_rfl) (by kernel_rfl) (fun _ _ _ h => h) (by rfl) (by (intro _w _hSw; (try dsimp only at _hSw); go_simp)) (by assumption) ?_
    simp only [Act.put, List.setIfInBounds_toArray, List.set_cons_zero, List.set_cons_succ]
    refine takeV 2 (some 54) ((.bool false)) rfl rfl (by kernel_rfl) (by kernel_rfl) (by kernel_rfl) (fun _ _ _ h => h) (by rfl) (by (intro _w _hSw; (try dsimp only at _hSw); go_simp)) (by assumption) ?_
    simp only [Act.put, List.setIfInBounds_toArray, List.set_cons_zero, List.set_cons_succ]
    refine takeV 3 (some 55) ((.bool false)) rfl rfl (by kernel_rfl) (by kernel_rfl) (by kernel_rfl) (fun _ _ _ h => h) (by rfl) (by (intro _w _hSw; (try dsimp only at _hSw); go_simp)) (by assumption) ?_
    simp only [Act.put, List.setIfInBounds_toArray, List.set_cons_zero, List.set_cons_succ]
    have hHeld5 := HV4.out
    have hR5 := HR4.out
    have HB5 := HB4
    refine skipV 4 (some 56) rfl rfl (by kernel_rfl) (by kernel_rfl) (by kernel_rfl) (fun _ _ _ h => h) (by rfl) (by assumption) ?_
    simp only [Act.put, List.setIfInBounds_toArray, List.set_cons_zero, List.set_cons_succ]
    refine skipV 5 (some 57) rfl rfl (by kernel_rfl) (by kernel_rfl) (by kernel_rfl) (fun _ _ _ h => h) (by rfl) (by assumption) ?_
    simp only [Act.put, List.setIfInBounds_toArray, List.set_cons_zero, List.set_cons_succ]
    refine skipV 6 (some 58) rfl rfl (by kernel_rfl) (by kernel_rfl) (by kernel_rfl) (fun _ _ _ h => h) (by rfl) (by assumption) ?_
    simp only [Act.put, List.setIfInBounds_toArray, List.set_cons_zero, List.set_cons_succ]
    refine takeV 7 (some 59) ((.bool false)) rfl rfl (by kernel_rfl) (by kernel_rfl) (by kernel_rfl) (fun _ _ _ h => h) (by rfl) (by (intro _w _hSw; (try dsimp only at _hSw); go_simp)) (by assumption) ?_
    simp only [Act.put, List.setIfInBounds_toArray, List.set_cons_zero, List.set_cons_succ]
    have g0 := hR5.c0
    have g1 := hR5.c1
    have g2 := hR5.c2
    have z0 := hR5.fz 0
    have z1 := hR5.fz 1
    have z2 := hR5.fz 2
    have hF := ((hR5.set0 5).set1 0).set2 ⟨#[]⟩
    have HF := Lib.hid hF
    refine callV 8 rfl (by kernel_rfl) (by rfl) (fun K hK => ?_)
    go_simp
    refine hK.out _ _ (ValAt.dr (ValAt.far (ValAt.far (ValAt.far hHeld5 HNE.out.symm _) HNE.out.symm _) HNE.out.symm _)) (fun hHeld6 => ?_)
    clear hK K g0 g1 g2 z0 z1 z2 hR5 hF
    try simp only [Act.put, List.setIfInBounds_toArray, List.set_cons_zero, List.set_cons_succ]
    refine takeV 9 (some 3) ((.slice none 0 0)) rfl rfl (by kernel_rfl) (by kernel_rfl) (by kernel_rfl) (fun _ _ _ h => h) (by rfl) (by (intro _w _hSw; (try dsimp only at _hSw); go_simp)) (by assumption) ?_
    simp only [Act.put, List.setIfInBounds_toArray, List.set_cons_zero, List.set_cons_succ]
    refine takeV 10 (some 4) ((.bool false)) rfl rfl (by kernel_rfl) (by kernel_rfl) (by kernel_rfl) (fun _ _ _ h => h) (by rfl) (by (intro _w _hSw; (try dsimp only at _hSw); go_simp)) (by assumption) ?_
    simp only [Act.put, List.setIfInBounds_toArray, List.set_cons_zero, List.set_cons_succ]
    refine wpAnyH_done (by kernel_rfl) ?_ _
    have g0 := HF.out.c0
    have g1 := HF.out.c1
    have g2 := HF.out.c2
    go_wp2
    refine bodyPost_ret (v := .tuple #[valV 5 0 ⟨#[]⟩, .slice none 0 0, .bool false]) ?_ rfl ?_
    · rw [results_cell_tmp2 rfl]
      unfold valV
      go_simp
    · refine ⟨.inr ⟨(by first | (rw [hk]; exact oneR_num_none (.inr (.inl rfl)) HT.out) | exact oneR_num_none (.inr (.inl rfl)) HT.out), _, _, _, _, rfl⟩, below_dr (((HB5.out.setCell (p := ⟨W.heap.size, 0, none⟩) (Nat.le_refl _) _).setCell (p := ⟨W.heap.size, 1, none⟩) (Nat.le_refl _) _).setCell (p := ⟨W.heap.size, 2, none⟩) (Nat.le_refl _) _)⟩

set_option maxRecDepth 100000 in
set_option maxHeartbeats 2000000 in
theorem readValue_6 (a : Addr) (cp : Nat) (c : UInt8) (t : List UInt8) (W : World) (B : Nat) (hBW : B ≤ W.heap.size) (hs : SlB W B (some a) (c :: t)) (hlc : t.length + 1 ≤ cp) (hc : cp ≤ maxLen) (_hl : t.length ≤ 10000) (hk : c = 6) :
    Calls Try.prog 110 #[.slice (some a) (t.length + 1) cp] W (ValRd W B (c :: t)) := by
  unfold maxLen at hc
  have hck : (c.toNat : Int) = 6 := by rw [hk]; rfl
  have hal : a.block < W.heap.size := by
    obtain ⟨a', e, h, _⟩ := hs (by simp)
    injection e with e; subst e; omega
  have HCL : Hid (W.cell? a = some (.int .u8 c.toNat)) := by
    obtain ⟨a', e, _, h⟩ := hs (by simp)
    injection e with e; subst e
    have := h 0 c rfl
    rwa [add_zero'] at this
  have HS := Lib.hid hs
  clear hs
  obtain ⟨A2, hA2⟩ : ∃ A2, (if cp = 1 then some a else some ⟨a.block, a.off + 1, none⟩) = A2 := ⟨_, rfl⟩
  have HA2 : Hid (SlB W B A2 t ∧ (A2 = none → cp - 1 = 0)) := by
    have := HS.out.cut (show (c :: t).length ≤ cp from hlc) 1
    rw [hA2] at this
    exact ⟨this, fun h => by rw [← hA2] at h; split at h <;> cases h⟩
  go_enter Try.func110, Try.ntmps110
  go_wp2_with fail
  obtain ⟨w1, hw1⟩ : ∃ w1, W.alloc (.cells #[.int .i64 0, .int .i64 0, .string ⟨#[]⟩] 24) = w1 := ⟨_, rfl⟩
  have HB1 : Hid (Below W.heap.size W w1) := by rw [← hw1]; exact (Below.refl _ _).alloc (Nat.le_refl _) _
  have HR1 : Hid (ValAt w1 W.heap.size 0 0 ⟨#[]⟩) := by rw [← hw1]; exact valAt_new W 0 0 ⟨#[]⟩
  have HNE : Hid (W.heap.size ≠ w1.heap.size) := by show _ ≠ _; rw [← hw1]; simp
  rw [hw1]
  have hwk : IntKind.i64.wrap 6 = 6 := by decide
  have hn1 : ¬ ((t.length : Int) + 1 < 1) := by omega
  have hln : (0 : Int) < (t.length : Int) + 1 := by omega
  refine wp_region_held_drew (S := fun W' => Below w1.heap.size w1 W') (by kernel_rfl) ((Below.refl _ w1).drew) (fun hHeld => ?_)
  refine takeV 0 (some 12) ((.slice (some a) (t.length + 1) cp)) rfl rfl (by kernel_rfl) (by kernel_rfl) (by kernel_rfl) (fun _ _ _ h => h) (by rfl) (by (intro _w _hSw; (try dsimp only at _hSw); go_simp)) (by assumption) ?_
  simp only [Act.put, List.setIfInBounds_toArray, List.set_cons_zero, List.set_cons_succ]
  refine takeV 1 (some 13) ((.pointer (some a))) rfl rfl (by kernel_rfl) (by kernel_rfl) (by kernel_rfl) (fun _ _ _ h => h) (by rfl) (by (intro _w _hSw; (try dsimp only at _hSw); go_simp)) (by assumption) ?_
  simp only [Act.put, List.setIfInBounds_toArray, List.set_cons_zero, List.set_cons_succ]
  refine takeV 2 (some 14) ((.int .u8 c.toNat)) rfl rfl (by kernel_rfl) (by kernel_rfl) (by kernel_rfl) (fun _ _ _ h => h) (by rfl) (by (intro _w hSw; have q1 := (hSw.cell (p := a) (Nat.lt_of_lt_of_le hal HB1.out.size)).trans ((HB1.out.cell (p := a) hal).trans HCL.out); clear hSw; go_simp)) (by assumption) ?_
  simp only [Act.put, List.setIfInBounds_toArray, List.set_cons_zero, List.set_cons_succ]
  refine takeV 3 (some 15) ((.int .i64 6)) rfl rfl (by kernel_rfl) (by kernel_rfl) (by kernel_rfl) (fun _ _ _ h => h) (by rfl) (by (intro _w _hSw; (try dsimp only at _hSw); go_simp)) (by assumption) ?_
  simp only [Act.put, List.setIfInBounds_toArray, List.set_cons_zero, List.set_cons_succ]
  refine takeV 4 (some 16) ((.agg #[.int .i64 6, .int .i64 0, .string ⟨#[]⟩])) rfl rfl (by kernel_rfl) (by kernel_rfl) (by kernel_rfl) (fun _ _ _ h => h) (by rfl) (by (intro _w _hSw; (try dsimp only at _hSw); go_simp)) (by assumption) ?_
  simp only [Act.put, List.setIfInBounds_toArray, List.set_cons_zero, List.set_cons_succ]
  refine takeV 5 (some 17) ((.slice (some a) (t.length + 1) cp)) rfl rfl (by kernel_rfl) (by kernel_rfl) (by kernel_rfl) (fun _ _ _ h => h) (by rfl) (by (intro _w _hSw; (try dsimp only at _hSw); go_simp)) (by assumption) ?_
  simp only [Act.put, List.setIfInBounds_toArray, List.set_cons_zero, List.set_cons_succ]
  refine takeV 6 (some 18) ((.slice A2 t.length (cp - 1))) rfl rfl (by kernel_rfl) (by kernel_rfl) (by kernel_rfl) (fun _ _ _ h => h) (by rfl) (by (intro _w hSw; clear hHeld; clear hSw; go_simp)) (by assumption) ?_
  simp only [Act.put, List.setIfInBounds_toArray, List.set_cons_zero, List.set_cons_succ]
  refine callV 7 rfl (by kernel_rfl) (by rfl) (fun K hK => ?_)
  go_simp
  refine hK.out _ _ (below_dr ((Below.refl _ w1).alloc (Nat.le_refl _) _)) (fun hHeld2 => ?_)
  clear hK K hHeld
  try simp only [Act.put, List.setIfInBounds_toArray, List.set_cons_zero, List.set_cons_succ]
  refine callV 8 rfl (by kernel_rfl) (by rfl) (fun K hK => ?_)
  go_simp
  refine hK.out _ _ (below_dr ((Below.refl _ w1).alloc (Nat.le_refl _) _)) (fun hHeld3 => ?_)
  clear hK K hHeld2
  try simp only [Act.put, List.setIfInBounds_toArray, List.set_cons_zero, List.set_cons_succ]
  refine takeV 9 (some 6) ((.slice A2 t.length (cp - 1))) rfl rfl (by kernel_rfl) (by kernel_rfl) (by kernel_rfl) (fun _ _ _ h => h) (by rfl) (by (intro _w _hSw; (try dsimp only at _hSw); go_simp)) (by assumption) ?_
  simp only [Act.put, List.setIfInBounds_toArray, List.set_cons_zero, List.set_cons_succ]
  refine takeV 10 (some 7) ((.bool false)) rfl rfl (by kernel_rfl) (by kernel_rfl) (by kernel_rfl) (fun _ _ _ h => h) (by rfl) (by (intro _w _hSw; (try dsimp only at _hSw); go_simp)) (by assumption) ?_
  simp only [Act.put, List.setIfInBounds_toArray, List.set_cons_zero, List.set_cons_succ]
  refine wpAnyH_done (by kernel_rfl) ?_ _
  obtain ⟨w2, hw2⟩ : ∃ w2, (w1.alloc (.cells #[.int .i64 6, .int .i64 0, .string ⟨#[]⟩] 24)).drew = w2 := ⟨_, rfl⟩
  have HV2 : Hid (ValAt w2 w1.heap.size 6 0 ⟨#[]⟩) := by rw [← hw2]; exact valAt_new w1 6 0 ⟨#[]⟩
  have HB2 : Hid (Below w1.heap.size w1 w2) := by rw [← hw2]; exact hHeld3
  have HB12 : Hid (Below W.heap.size W w2) := HB1.out.trans (HB2.out.mono HB1.out.size)
  rw [hw2]
  clear hw2 hHeld3 hw1
  have hR2 : Hid (ValAt w2 W.heap.size 0 0 ⟨#[]⟩) := HR1.out.next HB2.out HR1.out.lt
  have k0 := HV2.out.c0
  have k1 := HV2.out.c1
  have k2 := HV2.out.c2
  go_wp2_with fail
  refine (readNumber_any A2 (cp - 1) t w2 B (Nat.le_trans hBW HB12.out.size) (HA2.out.1.next HB12.out hBW) (by omega) (by unfold maxLen; omega)).mono ?_
  rintro e w3 (⟨hT, ⟨r, rfl, hr⟩, hb⟩ | ⟨hT, rfl, hb⟩)
  · have HT := Lib.hid hT
    have hsx : (⟨#[]⟩ : ByteArray).size ≤ maxLen := by decide
    clear hT
    have hv3 := HV2.out.next hb HV2.out.lt
    have hr3 := hR2.out.next hb hR2.out.lt
    have f2 := hv3.fz 1
    have g0 := hv3.c0
    have g1 := hv3.c1
    have g2 := hv3.c2
    have HV4 := Lib.hid (hv3.set1 (numR t))
    have HR4 := Lib.hid (hr3.far (j := 1) HNE.out (.int .i64 (numR t)))
    clear k0 k1 k2
    go_wp2_with fail
    obtain ⟨w4, hw4⟩ : ∃ w4, w3.setCell ⟨w1.heap.size, 1, none⟩ (.int .i64 (numR t)) = w4 := ⟨_, rfl⟩
    have hb3 := HB12.out.trans (hb.mono HB12.out.size)
    have HB4 : Hid (Below W.heap.size W w4) := by
      rw [← hw4]
      exact hb3.setCell (p := ⟨w1.heap.size, 1, none⟩) HB1.out.size _
    have hr4 : Rest w4.drew B r (t.drop 8) := by
      rw [← hw4]
      obtain ⟨X, x, ex, hx, h1, h2⟩ := hr.next ((Below.refl W.heap.size _).setCell (p := ⟨w1.heap.size, 1, none⟩) HB1.out.size (.int .i64 (numR t))) hBW
      exact ⟨X, x, ex, hx.next (below_dr (Below.refl W.heap.size _)) hBW, h1, h2⟩
    rw [hw4] at HV4 HR4
    rw [hw4]
    clear hw4 f2 g0 g1 g2 hv3 hr3 hb3 hb
    cases hm : mayB 6 (numR t) ⟨#[]⟩
    · have HM := Lib.hid hm
      clear hm
      refine wp_region_held_drew (S := fun W' => ValAt W' w1.heap.size 6 (numR t) ⟨#[]⟩) (by kernel_rfl) HV4.out.dr (fun hHeld => ?_)
      refine takeV 0 (some 52) ((.agg #[.int .i64 6, .int .i64 (numR t), .string ⟨#[]⟩])) rfl rfl (by kernel_rfl) (by kernel_rfl) (by kernel_rfl) (fun _ _ _ h => h) (by rfl) (by (intro _w hSw; have q0 := ValAt.c0 hSw; have q1 := ValAt.c1 hSw; have q2 := ValAt.c2 hSw; clear hSw; go_simp)) (by assumption) ?_
      simp only [Act.put, List.setIfInBounds_toArray, List.set_cons_zero, List.set_cons_succ]
      refine takeV 1 (some 53) ((r)) rfl rfl (by kernel_rfl) (by kernel_rfl) (by kernel_rfl) (fun _ _ _ h => h) (by rfl) (by (intro _w _hSw; (try dsimp only at _hSw); go_simp)) (by assumption) ?_
      simp only [Act.put, List.setIfInBounds_toArray, List.set_cons_zero, List.set_cons_succ]
      refine takeV 2 (some 54) ((.bool true)) rfl rfl (by kernel_rfl) (by kernel_rfl) (by kernel_rfl) (fun _ _ _ h => h) (by rfl) (by (intro _w _hSw; (try dsimp only at _hSw); go_simp)) (by assumption) ?_
      simp only [Act.put, List.setIfInBounds_toArray, List.set_cons_zero, List.set_cons_succ]
      refine takeV 3 (some 55) ((.bool true)) rfl rfl (by kernel_rfl) (by kernel_rfl) (by kernel_rfl) (fun _ _ _ h => h) (by rfl) (by (intro _w _hSw; (try dsimp only at _hSw); go_simp)) (by assumption) ?_
      simp only [Act.put, List.setIfInBounds_toArray, List.set_cons_zero, List.set_cons_succ]
      refine takeV 4 (some 56) ((.agg #[.int .i64 6, .int .i64 (numR t), .string ⟨#[]⟩])) rfl rfl (by kernel_rfl) (by kernel_rfl) (by kernel_rfl) (fun _ _ _ h => h) (by rfl) (by (intro _w hSw; have q0 := ValAt.c0 hSw; have q1 := ValAt.c1 hSw; have q2 := ValAt.c2 hSw; clear hSw; go_simp)) (by assumption) ?_
      simp only [Act.put, List.setIfInBounds_toArray, List.set_cons_zero, List.set_cons_succ]
      refine callV 5 rfl (by kernel_rfl) (by rfl) (fun K hK => ?_)
      go_simp
      go_at_call 61
      refine (check_no _ hsx HM.out).mono ?_
      rintro e w5 ⟨rfl, hb5⟩
      have hR5 := HR4.out.dr.next hb5 HR4.out.dr.lt
      have HX5 : Hid True := trivial
      have HB5 := Lib.hid ((below_dr HB4.out).trans (hb5.mono HB4.out.size))
      refine hK.out _ _ (ValAt.next hHeld hb5 (ValAt.lt hHeld)) (fun hHeld5 => ?_)
      clear hK K hHeld hb5
      try simp only [Act.put, List.setIfInBounds_toArray, List.set_cons_zero, List.set_cons_succ]
      refine takeV 6 (some 58) ((.bool false)) rfl rfl (by kernel_rfl) (by kernel_rfl) (by kernel_rfl) (fun _ _ _ h => h) (by rfl) (by (intro _w _hSw; (try dsimp only at _hSw); go_simp)) (by assumption) ?_
      simp only [Act.put, List.setIfInBounds_toArray, List.set_cons_zero, List.set_cons_succ]
      refine takeV 7 (some 59) ((.bool false)) rfl rfl (by kernel_rfl) (by kernel_rfl) (by kernel_rfl) (fun _ _ _ h => h) (by rfl) (by (intro _w _hSw; (try dsimp only at _hSw); go_simp)) (by assumption) ?_
      simp only [Act.put, List.setIfInBounds_toArray, List.set_cons_zero, List.set_cons_succ]
      have g0 := hR5.c0
      have g1 := hR5.c1
      have g2 := hR5.c2
      have z0 := hR5.fz 0
      have z1 := hR5.fz 1
      have z2 := hR5.fz 2
      have hF := ((hR5.set0 6).set1 (numR t)).set2 ⟨#[]⟩
      have HF := Lib.hid hF
      refine callV 8 rfl (by kernel_rfl) (by rfl) (fun K hK => ?_)
      go_simp
      refine hK.out _ _ (ValAt.far (ValAt.far (ValAt.far hHeld5 HNE.out.symm _) HNE.out.symm _) HNE.out.symm _) (fun hHeld6 => ?_)
      clear hK K g0 g1 g2 z0 z1 z2 hR5 hF
      try simp only [Act.put, List.setIfInBounds_toArray, List.set_cons_zero, List.set_cons_succ]
      refine takeV 9 (some 3) ((r)) rfl rfl (by kernel_rfl) (by kernel_rfl) (by kernel_rfl) (fun _ _ _ h => h) (by rfl) (by (intro _w _hSw; (try dsimp only at _hSw); go_simp)) (by assumption) ?_
      simp only [Act.put, List.setIfInBounds_toArray, List.set_cons_zero, List.set_cons_succ]
      refine takeV 10 (some 4) ((.bool false)) rfl rfl (by kernel_rfl) (by kernel_rfl) (by kernel_rfl) (fun _ _ _ h => h) (by rfl) (by (intro _w _hSw; (try dsimp only at _hSw); go_simp)) (by assumption) ?_
      simp only [Act.put, List.setIfInBounds_toArray, List.set_cons_zero, List.set_cons_succ]
      refine wpAnyH_done (by kernel_rfl) ?_ _
      have g0 := HF.out.c0
      have g1 := HF.out.c1
      have g2 := HF.out.c2
      go_wp2
      refine bodyPost_ret (v := .tuple #[valV 6 (numR t) ⟨#[]⟩, r, .bool false]) ?_ rfl ?_
      · rw [results_cell_tmp2 rfl]
        unfold valV
        go_simp
      · refine ⟨.inr ⟨(by first | (rw [hk]; exact oneR_num_no (.inr (.inr rfl)) HM.out) | exact oneR_num_no (.inr (.inr rfl)) HM.out), _, _, _, _, rfl⟩, ((HB5.out.setCell (p := ⟨W.heap.size, 0, none⟩) (Nat.le_refl _) _).setCell (p := ⟨W.heap.size, 1, none⟩) (Nat.le_refl _) _).setCell (p := ⟨W.heap.size, 2, none⟩) (Nat.le_refl _) _⟩
    · have HM := Lib.hid hm
      clear hm
      refine wp_region_held_drew (S := fun W' => ValAt W' w1.heap.size 6 (numR t) ⟨#[]⟩) (by kernel_rfl) HV4.out.dr (fun hHeld => ?_)
      refine takeV 0 (some 52) ((.agg #[.int .i64 6, .int .i64 (numR t), .string ⟨#[]⟩])) rfl rfl (by kernel_rfl) (by kernel_rfl) (by kernel_rfl) (fun _ _ _ h => h) (by rfl) (by (intro _w hSw; have q0 := ValAt.c0 hSw; have q1 := ValAt.c1 hSw; have q2 := ValAt.c2 hSw; clear hSw; go_simp)) (by assumption) ?_
      simp only [Act.put, List.setIfInBounds_toArray, List.set_cons_zero, List.set_cons_succ]
      refine takeV 1 (some 53) ((r)) rfl rfl (by kernel_rfl) (by kernel_rfl) (by kernel_rfl) (fun _ _ _ h => h) (by rfl) (by (intro _w _hSw; (try dsimp only at _hSw); go_simp)) (by assumption) ?_
      simp only [Act.put, List.setIfInBounds_toArray, List.set_cons_zero, List.set_cons_succ]
      refine takeV 2 (some 54) ((.bool true)) rfl rfl (by kernel_rfl) (by kernel_rfl) (by kernel_rfl) (fun _ _ _ h => h) (by rfl) (by (intro _w _hSw; (try dsimp only at _hSw); go_simp)) (by assumption) ?_
      simp only [Act.put, List.setIfInBounds_toArray, List.set_cons_zero, List.set_cons_succ]
      refine takeV 3 (some 55) ((.bool true)) rfl rfl (by kernel_rfl) (by kernel_rfl) (by kernel_rfl) (fun _ _ _ h => h) (by rfl) (by (intro _w _hSw; (try dsimp only at _hSw); go_simp)) (by assumption) ?_
      simp only [Act.put, List.setIfInBounds_toArray, List.set_cons_zero, List.set_cons_succ]
      refine takeV 4 (some 56) ((.agg #[.int .i64 6, .int .i64 (numR t), .string ⟨#[]⟩])) rfl rfl (by kernel_rfl) (by kernel_rfl) (by kernel_rfl) (fun _ _ _ h => h) (by rfl) (by (intro _w hSw; have q0 := ValAt.c0 hSw; have q1 := ValAt.c1 hSw; have q2 := ValAt.c2 hSw; clear hSw; go_simp)) (by assumption) ?_
      simp only [Act.put, List.setIfInBounds_toArray, List.set_cons_zero, List.set_cons_succ]
      refine callV 5 rfl (by kernel_rfl) (by rfl) (fun K hK => ?_)
      go_simp
      go_at_call 61
      refine (check_yes _ hsx HM.out).mono ?_
      rintro e w5 ⟨rfl, hb5⟩
      have hR5 := HR4.out.dr.next hb5 HR4.out.dr.lt
      have HX5 := Lib.hid (hr4.next (hb5.mono HB4.out.size) hBW)
      have HB5 := Lib.hid ((below_dr HB4.out).trans (hb5.mono HB4.out.size))
      refine hK.out _ _ (ValAt.next hHeld hb5 (ValAt.lt hHeld)) (fun hHeld5 => ?_)
      clear hK K hHeld hb5
      try simp only [Act.put, List.setIfInBounds_toArray, List.set_cons_zero, List.set_cons_succ]
      refine takeV 6 (some 58) ((.bool true)) rfl rfl (by kernel_rfl) (by kernel_rfl) (by kernel_rfl) (fun _ _ _ h => h) (by rfl) (by (intro _w _hSw; (try dsimp only at _hSw); go_simp)) (by assumption) ?_
      simp only [Act.put, List.setIfInBounds_toArray, List.set_cons_zero, List.set_cons_succ]
      refine takeV 7 (some 59) ((.bool true)) rfl rfl (by kernel_rfl) (by kernel_rfl) (by kernel_rfl) (fun _ _ _ h => h) (by rfl) (by (intro _w _hSw; (try dsimp only at _hSw); go_simp)) (by assumption) ?_
      simp only [Act.put, List.setIfInBounds_toArray, List.set_cons_zero, List.set_cons_succ]
      have g0 := hR5.c0
      have g1 := hR5.c1
      have g2 := hR5.c2
      have z0 := hR5.fz 0
      have z1 := hR5.fz 1
      have z2 := hR5.fz 2
      have hF := ((hR5.set0 6).set1 (numR t)).set2 ⟨#[]⟩
      have HF := Lib.hid hF
      refine callV 8 rfl (by kernel_rfl) (by rfl) (fun K hK => ?_)
      go_simp
      refine hK.out _ _ (ValAt.far (ValAt.far (ValAt.far hHeld5 HNE.out.symm _) HNE.out.symm _) HNE.out.symm _) (fun hHeld6 => ?_)
      clear hK K g0 g1 g2 z0 z1 z2 hR5 hF
      try simp only [Act.put, List.setIfInBounds_toArray, List.set_cons_zero, List.set_cons_succ]
      refine takeV 9 (some 3) ((r)) rfl rfl (by kernel_rfl) (by kernel_rfl) (by kernel_rfl) (fun _ _ _ h => h) (by rfl) (by (intro _w _hSw; (try dsimp only at _hSw); go_simp)) (by assumption) ?_
      simp only [Act.put, List.setIfInBounds_toArray, List.set_cons_zero, List.set_cons_succ]
      refine takeV 10 (some 4) ((.bool true)) rfl rfl (by kernel_rfl) (by kernel_rfl) (by kernel_rfl) (fun _ _ _ h => h) (by rfl) (by (intro _w _hSw; (try dsimp only at _hSw); go_simp)) (by assumption) ?_
      simp only [Act.put, List.setIfInBounds_toArray, List.set_cons_zero, List.set_cons_succ]
      refine wpAnyH_done (by kernel_rfl) ?_ _
      have g0 := HF.out.c0
      have g1 := HF.out.c1
      have g2 := HF.out.c2
      go_wp2
      refine bodyPost_ret (v := .tuple #[valV 6 (numR t) ⟨#[]⟩, r, .bool true]) ?_ rfl ?_
      · rw [results_cell_tmp2 rfl]
        unfold valV
        go_simp
      · refine ⟨.inl ⟨_, _, [], _, r, (by first | (rw [hk]; exact oneR_num_yes (.inr (.inr rfl)) HT.out HM.out) | exact oneR_num_yes (.inr (.inr rfl)) HT.out HM.out), rfl, ?_⟩, ((HB5.out.setCell (p := ⟨W.heap.size, 0, none⟩) (Nat.le_refl _) _).setCell (p := ⟨W.heap.size, 1, none⟩) (Nat.le_refl _) _).setCell (p := ⟨W.heap.size, 2, none⟩) (Nat.le_refl _) _⟩
        exact ((HX5.out.next ((Below.refl W.heap.size _).setCell (p := ⟨W.heap.size, 0, none⟩) (Nat.le_refl _) _) hBW).next ((Below.refl W.heap.size _).setCell (p := ⟨W.heap.size, 1, none⟩) (Nat.le_refl _) _) hBW).next ((Below.refl W.heap.size _).setCell (p := ⟨W.heap.size, 2, none⟩) (Nat.le_refl _) _) hBW
  · have HT := Lib.hid hT
    clear hT
    have hv3 := HV2.out.next hb HV2.out.lt
    have hr3 := hR2.out.next hb hR2.out.lt
    have f2 := hv3.fz 1
    have g0 := hv3.c0
    have g1 := hv3.c1
    have g2 := hv3.c2
    have HV4 := Lib.hid (hv3.set1 0)
    have HR4 := Lib.hid (hr3.far (j := 1) HNE.out (.int .i64 0))
    clear k0 k1 k2
    go_wp2_with fail
    obtain ⟨w4, hw4⟩ : ∃ w4, w3.setCell ⟨w1.heap.size, 1, none⟩ (.int .i64 0) = w4 := ⟨_, rfl⟩
    have hb3 := HB12.out.trans (hb.mono HB12.out.size)
    have HB4 : Hid (Below W.heap.size W w4) := by
      rw [← hw4]
      exact hb3.setCell (p := ⟨w1.heap.size, 1, none⟩) HB1.out.size _
    rw [hw4] at HV4 HR4
    rw [hw4]
    clear hw4 f2 g0 g1 g2 hv3 hr3 hb3 hb
    refine wp_region_held_drew (S := fun W' => ValAt W' w1.heap.size 6 0 ⟨#[]⟩) (by kernel_rfl) HV4.out.dr (fun hHeld => ?_)
    refine takeV 0 (some 52) ((.agg #[.int .i64 6, .int .i64 0, .string ⟨#[]⟩])) rfl rfl (by kernel_rfl) (by kernel_rfl) (by kernel_rfl) (fun _ _ _ h => h) (by rfl) (by (intro _w hSw; have q0 := ValAt.c0 hSw; have q1 := ValAt.c1 hSw; have q2 := ValAt.c2 hSw; clear hSw; go_simp)) (by assumption) ?_
    simp only [Act.put, List.setIfInBounds_toArray, List.set_cons_zero, List.set_cons_succ]
    refine takeV 1 (some 53) ((.slice none 0 0)) rfl rfl (by kernel_rfl) (by kernel_rfl) (by kernel_rfl) (fun _ _ _ h => h) (by rfl) (by (intro _w _hSw; (try dsimp only at _hSw); go_simp)) (by assumption) ?_
    simp only [Act.put, List.setIfInBounds_toArray, List.set_cons_zero, List.set_cons_succ]
    refine takeV 2 (some 54) ((.bool false)) rfl rfl (by kernel_rfl) (by kernel_rfl) (by kernel_rfl) (fun _ _ _ h => h) (by rfl) (by (intro _w _hSw; (try dsimp only at _hSw); go_simp)) (by assumption) ?_
    simp only [Act.put, List.setIfInBounds_toArray, List.set_cons_zero, List.set_cons_succ]
    refine takeV 3 (some 55) ((.bool false)) rfl rfl (by kernel_rfl) (by kernel_rfl) (by kernel_rfl) (fun _ _ _ h => h) (by rfl) (by (intro _w _hSw; (try dsimp only at _hSw); go_simp)) (by assumption) ?_
    simp only [Act.put, List.setIfInBounds_toArray, List.set_cons_zero, List.set_cons_succ]
    have hHeld5 := HV4.out
    have hR5 := HR4.out
    have HB5 := HB4
    refine skipV 4 (some 56) rfl rfl (by kernel_rfl) (by kernel_rfl) (by kernel_rfl) (fun _ _ _ h => h) (by rfl) (by assumption) ?_
    simp only [Act.put, List.setIfInBounds_toArray, List.set_cons_zero, List.set_cons_succ]
    refine skipV 5 (some 57) rfl rfl (by kernel_rfl) (by kernel_rfl) (by kernel_rfl) (fun _ _ _ h => h) (by rfl) (by assumption) ?_
    simp only [Act.put, List.setIfInBounds_toArray, List.set_cons_zero, List.set_cons_succ]
    refine skipV 6 (some 58) rfl rfl (by kernel_rfl) (by kernel_rfl) (by kernel_rfl) (fun _ _ _ h => h) (by rfl) (by assumption) ?_
    simp only [Act.put, List.setIfInBounds_toArray, List.set_cons_zero, List.set_cons_succ]
    refine takeV 7 (some 59) ((.bool false)) rfl rfl (by kernel_rfl) (by kernel_rfl) (by kernel_rfl) (fun _ _ _ h => h) (by rfl) (by (intro _w _hSw; (try dsimp only at _hSw); go_simp)) (by assumption) ?_
    simp only [Act.put, List.setIfInBounds_toArray, List.set_cons_zero, List.set_cons_succ]
    have g0 := hR5.c0
    have g1 := hR5.c1
    have g2 := hR5.c2
    have z0 := hR5.fz 0
    have z1 := hR5.fz 1
    have z2 := hR5.fz 2
    have hF := ((hR5.set0 6).set1 0).set2 ⟨#[]⟩
    have HF := Lib.hid hF
    refine callV 8 rfl (by kernel_rfl) (by rfl) (fun K hK => ?_)
    go_simp
    refine hK.out _ _ (ValAt.dr (ValAt.far (ValAt.far (ValAt.far hHeld5 HNE.out.symm _) HNE.out.symm _) HNE.out.symm _)) (fun hHeld6 => ?_)
    clear hK K g0 g1 g2 z0 z1 z2 hR5 hF
    try simp only [Act.put, List.setIfInBounds_toArray, List.set_cons_zero, List.set_cons_succ]
    refine takeV 9 (some 3) ((.slice none 0 0)) rfl rfl (by kernel_rfl) (by kernel_rfl) (by kernel_rfl) (fun _ _ _ h => h) (by rfl) (by (intro _w _hSw; (try dsimp only at _hSw); go_simp)) (by assumption) ?_
    simp only [Act.put, List.setIfInBounds_toArray, List.set_cons_zero, List.set_cons_succ]
    refine takeV 10 (some 4) ((.bool false)) rfl rfl (by kernel_rfl) (by kernel_rfl) (by kernel_rfl) (fun _ _ _ h => h) (by rfl) (by (intro _w _hSw; (try dsimp only at _hSw); go_simp)) (by assumption) ?_
    simp only [Act.put, List.setIfInBounds_toArray, List.set_cons_zero, List.set_cons_succ]
    refine wpAnyH_done (by kernel_rfl) ?_ _
    have g0 := HF.out.c0
    have g1 := HF.out.c1
    have g2 := HF.out.c2
    go_wp2
    refine bodyPost_ret (v := .tuple #[valV 6 0 ⟨#[]⟩, .slice none 0 0, .bool false]) ?_ rfl ?_
    · rw [results_cell_tmp2 rfl]
      unfold valV
      go_simp
    · refine ⟨.inr ⟨(by first | (rw [hk]; exact oneR_num_none (.inr (.inr rfl)) HT.out) | exact oneR_num_none (.inr (.inr rfl)) HT.out), _, _, _, _, rfl⟩, below_dr (((HB5.out.setCell (p := ⟨W.heap.size, 0, none⟩) (Nat.le_refl _) _).setCell (p := ⟨W.heap.size, 1, none⟩) (Nat.le_refl _) _).setCell (p := ⟨W.heap.size, 2, none⟩) (Nat.le_refl _) _)⟩

set_option maxRecDepth 100000 in
set_option maxHeartbeats 2000000 in
theorem readValue_7 (a : Addr) (cp : Nat) (c : UInt8) (t : List UInt8) (W : World) (B : Nat) (hBW : B ≤ W.heap.size) (hs : SlB W B (some a) (c :: t)) (hlc : t.length + 1 ≤ cp) (hc : cp ≤ maxLen) (hl : t.length ≤ 10000) (hk : c = 7) :
    Calls Try.prog 110 #[.slice (some a) (t.length + 1) cp] W (ValRd W B (c :: t)) := by
  unfold maxLen at hc
  have hck : (c.toNat : Int) = 7 := by rw [hk]; rfl
  have hal : a.block < W.heap.size := by
    obtain ⟨a', e, h, _⟩ := hs (by simp)
    injection e with e; subst e; omega
  have HCL : Hid (W.cell? a = some (.int .u8 c.toNat)) := by
    obtain ⟨a', e, _, h⟩ := hs (by simp)
    injection e with e; subst e
    have := h 0 c rfl
    rwa [add_zero'] at this
  have HS := Lib.hid hs
  clear hs
  obtain ⟨A2, hA2⟩ : ∃ A2, (if cp = 1 then some a else some ⟨a.block, a.off + 1, none⟩) = A2 := ⟨_, rfl⟩
  have HA2 : Hid (SlB W B A2 t ∧ (A2 = none → cp - 1 = 0)) := by
    have := HS.out.cut (show (c :: t).length ≤ cp from hlc) 1
    rw [hA2] at this
    exact ⟨this, fun h => by rw [← hA2] at h; split at h <;> cases h⟩
  go_enter Try.func110, Try.ntmps110
  go_wp2_with fail
  obtain ⟨w1, hw1⟩ : ∃ w1, W.alloc (.cells #[.int .i64 0, .int .i64 0, .string ⟨#[]⟩] 24) = w1 := ⟨_, rfl⟩
  have HB1 : Hid (Below W.heap.size W w1) := by rw [← hw1]; exact (Below.refl _ _).alloc (Nat.le_refl _) _
  have HR1 : Hid (ValAt w1 W.heap.size 0 0 ⟨#[]⟩) := by rw [← hw1]; exact valAt_new W 0 0 ⟨#[]⟩
  have HNE : Hid (W.heap.size ≠ w1.heap.size) := by show _ ≠ _; rw [← hw1]; simp
  rw [hw1]
  have hwk : IntKind.i64.wrap 7 = 7 := by decide
  have hn1 : ¬ ((t.length : Int) + 1 < 1) := by omega
  have hln : (0 : Int) < (t.length : Int) + 1 := by omega
  refine wp_region_held_drew (S := fun W' => Below w1.heap.size w1 W') (by kernel_rfl) ((Below.refl _ w1).drew) (fun hHeld => ?_)
  refine takeV 0 (some 12) ((.slice (some a) (t.length + 1) cp)) rfl rfl (by kernel_rfl) (by kernel_rfl) (by kernel_rfl) (fun _ _ _ h => h) (by rfl) (by (intro _w _hSw; (try dsimp only at _hSw); go_simp)) (by assumption) ?_
  simp only [Act.put, List.setIfInBounds_toArray, List.set_cons_zero, List.set_cons_succ]
  refine takeV 1 (some 13) ((.pointer (some a))) rfl rfl (by kernel_rfl) (by kernel_rfl) (by kernel_rfl) (fun _ _ _ h => h) (by rfl) (by (intro _w _hSw; (try dsimp only at _hSw); go_simp)) (by assumption) ?_
  simp only [Act.put, List.setIfInBounds_toArray, List.set_cons_zero, List.set_cons_succ]
  refine takeV 2 (some 14) ((.int .u8 c.toNat)) rfl rfl (by kernel_rfl) (by kernel_rfl) (by kernel_rfl) (fun _ _ _ h => h) (by rfl) (by (intro _w hSw; have q1 := (hSw.cell (p := a) (Nat.lt_of_lt_of_le hal HB1.out.size)).trans ((HB1.out.cell (p := a) hal).trans HCL.out); clear hSw; go_simp)) (by assumption) ?_
  simp only [Act.put, List.setIfInBounds_toArray, List.set_cons_zero, List.set_cons_succ]
  refine takeV 3 (some 15) ((.int .i64 7)) rfl rfl (by kernel_rfl) (by kernel_rfl) (by kernel_rfl) (fun _ _ _ h => h) (by rfl) (by (intro _w _hSw; (try dsimp only at _hSw); go_simp)) (by assumption) ?_
  simp only [Act.put, List.setIfInBounds_toArray, List.set_cons_zero, List.set_cons_succ]
  refine takeV 4 (some 16) ((.agg #[.int .i64 7, .int .i64 0, .string ⟨#[]⟩])) rfl rfl (by kernel_rfl) (by kernel_rfl) (by kernel_rfl) (fun _ _ _ h => h) (by rfl) (by (intro _w _hSw; (try dsimp only at _hSw); go_simp)) (by assumption) ?_
  simp only [Act.put, List.setIfInBounds_toArray, List.set_cons_zero, List.set_cons_succ]
  refine takeV 5 (some 17) ((.slice (some a) (t.length + 1) cp)) rfl rfl (by kernel_rfl) (by kernel_rfl) (by kernel_rfl) (fun _ _ _ h => h) (by rfl) (by (intro _w _hSw; (try dsimp only at _hSw); go_simp)) (by assumption) ?_
  simp only [Act.put, List.setIfInBounds_toArray, List.set_cons_zero, List.set_cons_succ]
  refine takeV 6 (some 18) ((.slice A2 t.length (cp - 1))) rfl rfl (by kernel_rfl) (by kernel_rfl) (by kernel_rfl) (fun _ _ _ h => h) (by rfl) (by (intro _w hSw; clear hHeld; clear hSw; go_simp)) (by assumption) ?_
  simp only [Act.put, List.setIfInBounds_toArray, List.set_cons_zero, List.set_cons_succ]
  refine callV 7 rfl (by kernel_rfl) (by rfl) (fun K hK => ?_)
  go_simp
  refine hK.out _ _ (below_dr ((Below.refl _ w1).alloc (Nat.le_refl _) _)) (fun hHeld2 => ?_)
  clear hK K hHeld
  try simp only [Act.put, List.setIfInBounds_toArray, List.set_cons_zero, List.set_cons_succ]
  refine callV 8 rfl (by kernel_rfl) (by rfl) (fun K hK => ?_)
  go_simp
  refine hK.out _ _ (below_dr ((Below.refl _ w1).alloc (Nat.le_refl _) _)) (fun hHeld3 => ?_)
  clear hK K hHeld2
  try simp only [Act.put, List.setIfInBounds_toArray, List.set_cons_zero, List.set_cons_succ]
  refine takeV 9 (some 6) ((.slice A2 t.length (cp - 1))) rfl rfl (by kernel_rfl) (by kernel_rfl) (by kernel_rfl) (fun _ _ _ h => h) (by rfl) (by (intro _w _hSw; (try dsimp only at _hSw); go_simp)) (by assumption) ?_
  simp only [Act.put, List.setIfInBounds_toArray, List.set_cons_zero, List.set_cons_succ]
  refine takeV 10 (some 7) ((.bool false)) rfl rfl (by kernel_rfl) (by kernel_rfl) (by kernel_rfl) (fun _ _ _ h => h) (by rfl) (by (intro _w _hSw; (try dsimp only at _hSw); go_simp)) (by assumption) ?_
  simp only [Act.put, List.setIfInBounds_toArray, List.set_cons_zero, List.set_cons_succ]
  refine wpAnyH_done (by kernel_rfl) ?_ _
  obtain ⟨w2, hw2⟩ : ∃ w2, (w1.alloc (.cells #[.int .i64 7, .int .i64 0, .string ⟨#[]⟩] 24)).drew = w2 := ⟨_, rfl⟩
  have HV2 : Hid (ValAt w2 w1.heap.size 7 0 ⟨#[]⟩) := by rw [← hw2]; exact valAt_new w1 7 0 ⟨#[]⟩
  have HB2 : Hid (Below w1.heap.size w1 w2) := by rw [← hw2]; exact hHeld3
  have HB12 : Hid (Below W.heap.size W w2) := HB1.out.trans (HB2.out.mono HB1.out.size)
  rw [hw2]
  clear hw2 hHeld3 hw1
  have hR2 : Hid (ValAt w2 W.heap.size 0 0 ⟨#[]⟩) := HR1.out.next HB2.out HR1.out.lt
  have k0 := HV2.out.c0
  have k1 := HV2.out.c1
  have k2 := HV2.out.c2
  go_wp2_with fail
  refine (readString_any (B := B) A2 (cp - 1) t w2 (Nat.le_trans hBW HB12.out.size) (HA2.out.1.next HB12.out hBW) HA2.out.2 (by omega) (by unfold maxLen; omega) (by omega)).mono ?_
  rintro e w3 (⟨s, u, r, hT, rfl, hr, hb⟩ | ⟨hT, rfl, hb⟩)
  · have HT := Lib.hid hT
    have hsl := txtR_len hT
    have hsx : (⟨s.toArray⟩ : ByteArray).size ≤ maxLen := by show s.toArray.size ≤ _; unfold maxLen; simp; omega
    clear hT
    have hv3 := HV2.out.next hb HV2.out.lt
    have hr3 := hR2.out.next hb hR2.out.lt
    have f2 := hv3.fz 2
    have g0 := hv3.c0
    have g1 := hv3.c1
    have g2 := hv3.c2
    have HV4 := Lib.hid (hv3.set2 ⟨s.toArray⟩)
    have HR4 := Lib.hid (hr3.far (j := 2) HNE.out (.string ⟨s.toArray⟩))
    clear k0 k1 k2
    go_wp2_with fail
    obtain ⟨w4, hw4⟩ : ∃ w4, w3.setCell ⟨w1.heap.size, 2, none⟩ (.string ⟨s.toArray⟩) = w4 := ⟨_, rfl⟩
    have hb3 := HB12.out.trans (hb.mono HB12.out.size)
    have HB4 : Hid (Below W.heap.size W w4) := by
      rw [← hw4]
      exact hb3.setCell (p := ⟨w1.heap.size, 2, none⟩) HB1.out.size _
    have hr4 : Rest w4.drew B r u := by
      rw [← hw4]
      obtain ⟨X, x, ex, hx, h1, h2⟩ := hr.next ((Below.refl W.heap.size _).setCell (p := ⟨w1.heap.size, 2, none⟩) HB1.out.size (.string ⟨s.toArray⟩)) hBW
      exact ⟨X, x, ex, hx.next (below_dr (Below.refl W.heap.size _)) hBW, h1, h2⟩
    rw [hw4] at HV4 HR4
    rw [hw4]
    clear hw4 f2 g0 g1 g2 hv3 hr3 hb3 hb
    cases hm : mayB 7 0 ⟨s.toArray⟩
    · have HM := Lib.hid hm
      clear hm
      refine wp_region_held_drew (S := fun W' => ValAt W' w1.heap.size 7 0 ⟨s.toArray⟩) (by kernel_rfl) HV4.out.dr (fun hHeld => ?_)
      refine takeV 0 (some 52) ((.agg #[.int .i64 7, .int .i64 0, .string ⟨s.toArray⟩])) rfl rfl (by kernel_rfl) (by kernel_rfl) (by kernel_rfl) (fun _ _ _ h => h) (by rfl) (by (intro _w hSw; have q0 := ValAt.c0 hSw; have q1 := ValAt.c1 hSw; have q2 := ValAt.c2 hSw; clear hSw; go_simp)) (by assumption) ?_
      simp only [Act.put, List.setIfInBounds_toArray, List.set_cons_zero, List.set_cons_succ]
      refine takeV 1 (some 53) ((r)) rfl rfl (by kernel_rfl) (by kernel_rfl) (by kernel_rfl) (fun _ _ _ h => h) (by rfl) (by (intro _w _hSw; (try dsimp only at _hSw); go_simp)) (by assumption) ?_
      simp only [Act.put, List.setIfInBounds_toArray, List.set_cons_zero, List.set_cons_succ]
      refine takeV 2 (some 54) ((.bool true)) rfl rfl (by kernel_rfl) (by kernel_rfl) (by kernel_rfl) (fun _ _ _ h => h) (by rfl) (by (intro _w _hSw; (try dsimp only at _hSw); go_simp)) (by assumption) ?_
      simp only [Act.put, List.setIfInBounds_toArray, List.set_cons_zero, List.set_cons_succ]
      refine takeV 3 (some 55) ((.bool true)) rfl rfl (by kernel_rfl) (by kernel_rfl) (by kernel_rfl) (fun _ _ _ h => h) (by rfl) (by (intro _w _hSw; (try dsimp only at _hSw); go_simp)) (by assumption) ?_
      simp only [Act.put, List.setIfInBounds_toArray, List.set_cons_zero, List.set_cons_succ]
      refine takeV 4 (some 56) ((.agg #[.int .i64 7, .int .i64 0, .string ⟨s.toArray⟩])) rfl rfl (by kernel_rfl) (by kernel_rfl) (by kernel_rfl) (fun _ _ _ h => h) (by rfl) (by (intro _w hSw; have q0 := ValAt.c0 hSw; have q1 := ValAt.c1 hSw; have q2 := ValAt.c2 hSw; clear hSw; go_simp)) (by assumption) ?_
      simp only [Act.put, List.setIfInBounds_toArray, List.set_cons_zero, List.set_cons_succ]
      refine callV 5 rfl (by kernel_rfl) (by rfl) (fun K hK => ?_)
      go_simp
      go_at_call 61
      refine (check_no _ hsx HM.out).mono ?_
      rintro e w5 ⟨rfl, hb5⟩
      have hR5 := HR4.out.dr.next hb5 HR4.out.dr.lt
      have HX5 : Hid True := trivial
      have HB5 := Lib.hid ((below_dr HB4.out).trans (hb5.mono HB4.out.size))
      refine hK.out _ _ (ValAt.next hHeld hb5 (ValAt.lt hHeld)) (fun hHeld5 => ?_)
      clear hK K hHeld hb5
      try simp only [Act.put, List.setIfInBounds_toArray, List.set_cons_zero, List.set_cons_succ]
      refine takeV 6 (some 58) ((.bool false)) rfl rfl (by kernel_rfl) (by kernel_rfl) (by kernel_rfl) (fun _ _ _ h => h) (by rfl) (by (intro _w _hSw; (try dsimp only at _hSw); go_simp)) (by assumption) ?_
      simp only [Act.put, List.setIfInBounds_toArray, List.set_cons_zero, List.set_cons_succ]
      refine takeV 7 (some 59) ((.bool false)) rfl rfl (by kernel_rfl) (by kernel_rfl) (by kernel_rfl) (fun _ _ _ h => h) (by rfl) (by (intro _w _hSw; (try dsimp only at _hSw); go_simp)) (by assumption) ?_
      simp only [Act.put, List.setIfInBounds_toArray, List.set_cons_zero, List.set_cons_succ]
      have g0 := hR5.c0
      have g1 := hR5.c1
      have g2 := hR5.c2
      have z0 := hR5.fz 0
      have z1 := hR5.fz 1
      have z2 := hR5.fz 2
      have hF := ((hR5.set0 7).set1 0).set2 ⟨s.toArray⟩
      have HF := Lib.hid hF
      refine callV 8 rfl (by kernel_rfl) (by rfl) (fun K hK => ?_)
      go_simp
      refine hK.out _ _ (ValAt.far (ValAt.far (ValAt.far hHeld5 HNE.out.symm _) HNE.out.symm _) HNE.out.symm _) (fun hHeld6 => ?_)
      clear hK K g0 g1 g2 z0 z1 z2 hR5 hF
      try simp only [Act.put, List.setIfInBounds_toArray, List.set_cons_zero, List.set_cons_succ]
      refine takeV 9 (some 3) ((r)) rfl rfl (by kernel_rfl) (by kernel_rfl) (by kernel_rfl) (fun _ _ _ h => h) (by rfl) (by (intro _w _hSw; (try dsimp only at _hSw); go_simp)) (by assumption) ?_
      simp only [Act.put, List.setIfInBounds_toArray, List.set_cons_zero, List.set_cons_succ]
      refine takeV 10 (some 4) ((.bool false)) rfl rfl (by kernel_rfl) (by kernel_rfl) (by kernel_rfl) (fun _ _ _ h => h) (by rfl) (by (intro _w _hSw; (try dsimp only at _hSw); go_simp)) (by assumption) ?_
      simp only [Act.put, List.setIfInBounds_toArray, List.set_cons_zero, List.set_cons_succ]
      refine wpAnyH_done (by kernel_rfl) ?_ _
      have g0 := HF.out.c0
      have g1 := HF.out.c1
      have g2 := HF.out.c2
      go_wp2
      refine bodyPost_ret (v := .tuple #[valV 7 0 ⟨s.toArray⟩, r, .bool false]) ?_ rfl ?_
      · rw [results_cell_tmp2 rfl]
        unfold valV
        go_simp
      · refine ⟨.inr ⟨(by first | (rw [hk]; exact oneR_txt_no (.inr (.inr rfl)) HT.out HM.out) | exact oneR_txt_no (.inr (.inr rfl)) HT.out HM.out), _, _, _, _, rfl⟩, ((HB5.out.setCell (p := ⟨W.heap.size, 0, none⟩) (Nat.le_refl _) _).setCell (p := ⟨W.heap.size, 1, none⟩) (Nat.le_refl _) _).setCell (p := ⟨W.heap.size, 2, none⟩) (Nat.le_refl _) _⟩
    · have HM := Lib.hid hm
      clear hm
      refine wp_region_held_drew (S := fun W' => ValAt W' w1.heap.size 7 0 ⟨s.toArray⟩) (by kernel_rfl) HV4.out.dr (fun hHeld => ?_)
      refine takeV 0 (some 52) ((.agg #[.int .i64 7, .int .i64 0, .string ⟨s.toArray⟩])) rfl rfl (by kernel_rfl) (by kernel_rfl) (by kernel_rfl) (fun _ _ _ h => h) (by rfl) (by (intro _w hSw; have q0 := ValAt.c0 hSw; have q1 := ValAt.c1 hSw; have q2 := ValAt.c2 hSw; clear hSw; go_simp)) (by assumption) ?_
      simp only [Act.put, List.setIfInBounds_toArray, List.set_cons_zero, List.set_cons_succ]
      refine takeV 1 (some 53) ((r)) rfl rfl (by kernel_rfl) (by kernel_rfl) (by kernel_rfl) (fun _ _ _ h => h) (by rfl) (by (intro _w _hSw; (try dsimp only at _hSw); go_simp)) (by assumption) ?_
      simp only [Act.put, List.setIfInBounds_toArray, List.set_cons_zero, List.set_cons_succ]
      refine takeV 2 (some 54) ((.bool true)) rfl rfl (by kernel_rfl) (by kernel_rfl) (by kernel_rfl) (fun _ _ _ h => h) (by rfl) (by (intro _w _hSw; (try dsimp only at _hSw); go_simp)) (by assumption) ?_
      simp only [Act.put, List.setIfInBounds_toArray, List.set_cons_zero, List.set_cons_succ]
      refine takeV 3 (some 55) ((.bool true)) rfl rfl (by kernel_rfl) (by kernel_rfl) (by kernel_rfl) (fun _ _ _ h => h) (by rfl) (by (intro _w _hSw; (try dsimp only at _hSw); go_simp)) (by assumption) ?_
      simp only [Act.put, List.setIfInBounds_toArray, List.set_cons_zero, List.set_cons_succ]
      refine takeV 4 (some 56) ((.agg #[.int .i64 7, .int .i64 0, .string ⟨s.toArray⟩])) rfl rfl (by kernel_rfl) (by kernel_rfl) (by kernel_rfl) (fun _ _ _ h => h) (by rfl) (by (intro _w hSw; have q0 := ValAt.c0 hSw; have q1 := ValAt.c1 hSw; have q2 := ValAt.c2 hSw; clear hSw; go_simp)) (by assumption) ?_
      simp only [Act.put, List.setIfInBounds_toArray, List.set_cons_zero, List.set_cons_succ]
      refine callV 5 rfl (by kernel_rfl) (by rfl) (fun K hK => ?_)
      go_simp
      go_at_call 61
      refine (check_yes _ hsx HM.out).mono ?_
      rintro e w5 ⟨rfl, hb5⟩
      have hR5 := HR4.out.dr.next hb5 HR4.out.dr.lt
      have HX5 := Lib.hid (hr4.next (hb5.mono HB4.out.size) hBW)
      have HB5 := Lib.hid ((below_dr HB4.out).trans (hb5.mono HB4.out.size))
      refine hK.out _ _ (ValAt.next hHeld hb5 (ValAt.lt hHeld)) (fun hHeld5 => ?_)
      clear hK K hHeld hb5
      try simp only [Act.put, List.setIfInBounds_toArray, List.set_cons_zero, List.set_cons_succ]
      refine takeV 6 (some 58) ((.bool true)) rfl rfl (by kernel_rfl) (by kernel_rfl) (by kernel_rfl) (fun _ _ _ h => h) (by rfl) (by (intro _w _hSw; (try dsimp only at _hSw); go_simp)) (by assumption) ?_
      simp only [Act.put, List.setIfInBounds_toArray, List.set_cons_zero, List.set_cons_succ]
      refine takeV 7 (some 59) ((.bool true)) rfl rfl (by kernel_rfl) (by kernel_rfl) (by kernel_rfl) (fun _ _ _ h => h) (by rfl) (by (intro _w _hSw; (try dsimp only at _hSw); go_simp)) (by assumption) ?_
      simp only [Act.put, List.setIfInBounds_toArray, List.set_cons_zero, List.set_cons_succ]
      have g0 := hR5.c0
      have g1 := hR5.c1
      have g2 := hR5.c2
      have z0 := hR5.fz 0
      have z1 := hR5.fz 1
      have z2 := hR5.fz 2
      have hF := ((hR5.set0 7).set1 0).set2 ⟨s.toArray⟩
      have HF := Lib.hid hF
      refine callV 8 rfl (by kernel_rfl) (by rfl) (fun K hK => ?_)
      go_simp
      refine hK.out _ _ (ValAt.far (ValAt.far (ValAt.far hHeld5 HNE.out.symm _) HNE.out.symm _) HNE.out.symm _) (fun hHeld6 => ?_)
      clear hK K g0 g1 g2 z0 z1 z2 hR5 hF
      try simp only [Act.put, List.setIfInBounds_toArray, List.set_cons_zero, List.set_cons_succ]
      refine takeV 9 (some 3) ((r)) rfl rfl (by kernel_rfl) (by kernel_rfl) (by kernel_rfl) (fun _ _ _ h => h) (by rfl) (by (intro _w _hSw; (try dsimp only at _hSw); go_simp)) (by assumption) ?_
      simp only [Act.put, List.setIfInBounds_toArray, List.set_cons_zero, List.set_cons_succ]
      refine takeV 10 (some 4) ((.bool true)) rfl rfl (by kernel_rfl) (by kernel_rfl) (by kernel_rfl) (fun _ _ _ h => h) (by rfl) (by (intro _w _hSw; (try dsimp only at _hSw); go_simp)) (by assumption) ?_
      simp only [Act.put, List.setIfInBounds_toArray, List.set_cons_zero, List.set_cons_succ]
      refine wpAnyH_done (by kernel_rfl) ?_ _
      have g0 := HF.out.c0
      have g1 := HF.out.c1
      have g2 := HF.out.c2
      go_wp2
      refine bodyPost_ret (v := .tuple #[valV 7 0 ⟨s.toArray⟩, r, .bool true]) ?_ rfl ?_
      · rw [results_cell_tmp2 rfl]
        unfold valV
        go_simp
      · refine ⟨.inl ⟨_, _, s, u, r, (by first | (rw [hk]; exact oneR_txt_yes (.inr (.inr rfl)) HT.out HM.out) | exact oneR_txt_yes (.inr (.inr rfl)) HT.out HM.out), rfl, ?_⟩, ((HB5.out.setCell (p := ⟨W.heap.size, 0, none⟩) (Nat.le_refl _) _).setCell (p := ⟨W.heap.size, 1, none⟩) (Nat.le_refl _) _).setCell (p := ⟨W.heap.size, 2, none⟩) (Nat.le_refl _) _⟩
        exact ((HX5.out.next ((Below.refl W.heap.size _).setCell (p := ⟨W.heap.size, 0, none⟩) (Nat.le_refl _) _) hBW).next ((Below.refl W.heap.size _).setCell (p := ⟨W.heap.size, 1, none⟩) (Nat.le_refl _) _) hBW).next ((Below.refl W.heap.size _).setCell (p := ⟨W.heap.size, 2, none⟩) (Nat.le_refl _) _) hBW
  · have HT := Lib.hid hT
    clear hT
    have hv3 := HV2.out.next hb HV2.out.lt
    have hr3 := hR2.out.next hb hR2.out.lt
    have f2 := hv3.fz 2
    have g0 := hv3.c0
    have g1 := hv3.c1
    have g2 := hv3.c2
    have HV4 := Lib.hid (hv3.set2 ⟨#[]⟩)
    have HR4 := Lib.hid (hr3.far (j := 2) HNE.out (.string ⟨#[]⟩))
    clear k0 k1 k2
    go_wp2_with fail
    obtain ⟨w4, hw4⟩ : ∃ w4, w3.setCell ⟨w1.heap.size, 2, none⟩ (.string ⟨#[]⟩) = w4 := ⟨_, rfl⟩
    have hb3 := HB12.out.trans (hb.mono HB12.out.size)
    have HB4 : Hid (Below W.heap.size W w4) := by
      rw [← hw4]
      exact hb3.setCell (p := ⟨w1.heap.size, 2, none⟩) HB1.out.size _
    rw [hw4] at HV4 HR4
    rw [hw4]
    clear hw4 f2 g0 g1 g2 hv3 hr3 hb3 hb
    refine wp_region_held_drew (S := fun W' => ValAt W' w1.heap.size 7 0 ⟨#[]⟩) (by kernel_rfl) HV4.out.dr (fun hHeld => ?_)
    refine takeV 0 (some 52) ((.agg #[.int .i64 7, .int .i64 0, .string ⟨#[]⟩])) rfl rfl (by kernel_rfl) (by kernel_rfl) (by kernel_rfl) (fun _ _ _ h => h) (by rfl) (by (intro _w hSw; have q0 := ValAt.c0 hSw; have q1 := ValAt.c1 hSw; have q2 := ValAt.c2 hSw; clear hSw; go_simp)) (by assumption) ?_
    simp only [Act.put, List.setIfInBounds_toArray, List.set_cons_zero, List.set_cons_succ]
    refine takeV 1 (some 53) ((.slice none 0 0)) rfl rfl (by kernel_rfl) (by kernel_rfl) (by kernel_rfl) (fun _ _ _ h => h) (by rfl) (by (intro _w _hSw; (try dsimp only at _hSw); go_simp)) (by assumption) ?_
    simp only [Act.put, List.setIfInBounds_toArray, List.set_cons_zero, List.set_cons_succ]
    refine takeV 2 (some 54) ((.bool false)) rfl rfl (by kernel_rfl) (by kernel_rfl) (by kernel_rfl) (fun _ _ _ h => h) (by rfl) (by (intro _w _hSw; (try dsimp only at _hSw); go_simp)) (by assumption) ?_
    simp only [Act.put, List.setIfInBounds_toArray, List.set_cons_zero, List.set_cons_succ]
    refine takeV 3 (some 55) ((.bool false)) rfl rfl (by kernel_rfl) (by kernel_rfl) (by kernel_rfl) (fun _ _ _ h => h) (by rfl) (by (intro _w _hSw; (try dsimp only at _hSw); go_simp)) (by assumption) ?_
    simp only [Act.put, List.setIfInBounds_toArray, List.set_cons_zero, List.set_cons_succ]
    have hHeld5 := HV4.out
    have hR5 := HR4.out
    have HB5 := HB4
    refine skipV 4 (some 56) rfl rfl (by kernel_rfl) (by kernel_rfl) (by kernel_rfl) (fun _ _ _ h => h) (by rfl) (by assumption) ?_
    simp only [Act.put, List.setIfInBounds_toArray, List.set_cons_zero, List.set_cons_succ]
    refine skipV 5 (some 57) rfl rfl (by kernel_rfl) (by kernel_rfl) (by kernel_rfl) (fun _ _ _ h => h) (by rfl) (by assumption) ?_
    simp only [Act.put, List.setIfInBounds_toArray, List.set_cons_zero, List.set_cons_succ]
    refine skipV 6 (some 58) rfl rfl (by kernel_rfl) (by kernel_rfl) (by kernel_rfl) (fun _ _ _ h => h) (by rfl) (by assumption) ?_
    simp only [Act.put, List.setIfInBounds_toArray, List.set_cons_zero, List.set_cons_succ]
    refine takeV 7 (some 59) ((.bool false)) rfl rfl (by kernel_rfl) (by kernel_rfl) (by kernel_rfl) (fun _ _ _ h => h) (by rfl) (by (intro _w _hSw; (try dsimp only at _hSw); go_simp)) (by assumption) ?_
    simp only [Act.put, List.setIfInBounds_toArray, List.set_cons_zero, List.set_cons_succ]
    have g0 := hR5.c0
    have g1 := hR5.c1
    have g2 := hR5.c2
    have z0 := hR5.fz 0
    have z1 := hR5.fz 1
    have z2 := hR5.fz 2
    have hF := ((hR5.set0 7).set1 0).set2 ⟨#[]⟩
    have HF := Lib.hid hF
    refine callV 8 rfl (by kernel_rfl) (by rfl) (fun K hK => ?_)
    go_simp
    refine hK.out _ _ (ValAt.dr (ValAt.far (ValAt.far (ValAt.far hHeld5 HNE.out.symm _) HNE.out.symm _) HNE.out.symm _)) (fun hHeld6 => ?_)
    clear hK K g0 g1 g2 z0 z1 z2 hR5 hF
    try simp only [Act.put, List.setIfInBounds_toArray, List.set_cons_zero, List.set_cons_succ]
    refine takeV 9 (some 3) ((.slice none 0 0)) rfl rfl (by kernel_rfl) (by kernel_rfl) (by kernel_rfl) (fun _ _ _ h => h) (by rfl) (by (intro _w _hSw; (try dsimp only at _hSw); go_simp)) (by assumption) ?_
    simp only [Act.put, List.setIfInBounds_toArray, List.set_cons_zero, List.set_cons_succ]
    refine takeV 10 (some 4) ((.bool false)) rfl rfl (by kernel_rfl) (by kernel_rfl) (by kernel_rfl) (fun _ _ _ h => h) (by rfl) (by (intro _w _hSw; (try dsimp only at _hSw); go_simp)) (by assumption) ?_
    simp only [Act.put, List.setIfInBounds_toArray, List.set_cons_zero, List.set_cons_succ]
    refine wpAnyH_done (by kernel_rfl) ?_ _
    have g0 := HF.out.c0
    have g1 := HF.out.c1
    have g2 := HF.out.c2
    go_wp2
    refine bodyPost_ret (v := .tuple #[valV 7 0 ⟨#[]⟩, .slice none 0 0, .bool false]) ?_ rfl ?_
    · rw [results_cell_tmp2 rfl]
      unfold valV
      go_simp
    · refine ⟨.inr ⟨(by first | (rw [hk]; exact oneR_txt_none (.inr (.inr rfl)) HT.out) | exact oneR_txt_none (.inr (.inr rfl)) HT.out), _, _, _, _, rfl⟩, below_dr (((HB5.out.setCell (p := ⟨W.heap.size, 0, none⟩) (Nat.le_refl _) _).setCell (p := ⟨W.heap.size, 1, none⟩) (Nat.le_refl _) _).setCell (p := ⟨W.heap.size, 2, none⟩) (Nat.le_refl _) _)⟩

set_option maxRecDepth 100000 in
set_option maxHeartbeats 2000000 in
theorem readValue_else (a : Addr) (cp : Nat) (c : UInt8) (t : List UInt8) (W : World) (B : Nat) (hBW : B ≤ W.heap.size) (hs : SlB W B (some a) (c :: t)) (hlc : t.length + 1 ≤ cp) (_hc : cp ≤ maxLen) (_hl : t.length ≤ 10000) (h1 : c ≠ 1) (h2 : c ≠ 2) (h3 : c ≠ 3) (h4 : c ≠ 4) (h5 : c ≠ 5) (h6 : c ≠ 6) (h7 : c ≠ 7)  :
    Calls Try.prog 110 #[.slice (some a) (t.length + 1) cp] W (ValRd W B (c :: t)) := by
  have n1 : ((c.toNat : Int) == 1) = false := by
    rw [beq_eq_false_iff_ne]
    exact fun e => h1 (UInt8.toNat_inj.1 (by show c.toNat = 1; omega))
  have n2 : ((c.toNat : Int) == 2) = false := by
    rw [beq_eq_false_iff_ne]
    exact fun e => h2 (UInt8.toNat_inj.1 (by show c.toNat = 2; omega))
  have n3 : ((c.toNat : Int) == 3) = false := by
    rw [beq_eq_false_iff_ne]
    exact fun e => h3 (UInt8.toNat_inj.1 (by show c.toNat = 3; omega))
  have n4 : ((c.toNat : Int) == 4) = false := by
    rw [beq_eq_false_iff_ne]
    exact fun e => h4 (UInt8.toNat_inj.1 (by show c.toNat = 4; omega))
  have n5 : ((c.toNat : Int) == 5) = false := by
    rw [beq_eq_false_iff_ne]
    exact fun e => h5 (UInt8.toNat_inj.1 (by show c.toNat = 5; omega))
  have n6 : ((c.toNat : Int) == 6) = false := by
    rw [beq_eq_false_iff_ne]
    exact fun e => h6 (UInt8.toNat_inj.1 (by show c.toNat = 6; omega))
  have n7 : ((c.toNat : Int) == 7) = false := by
    rw [beq_eq_false_iff_ne]
    exact fun e => h7 (UInt8.toNat_inj.1 (by show c.toNat = 7; omega))
  have hal : a.block < W.heap.size := by
    obtain ⟨a', e, h, _⟩ := hs (by simp)
    injection e with e; subst e; omega
  have HCL : Hid (W.cell? a = some (.int .u8 c.toNat)) := by
    obtain ⟨a', e, _, h⟩ := hs (by simp)
    injection e with e; subst e
    have := h 0 c rfl
    rwa [add_zero'] at this
  have HS := Lib.hid hs
  clear hs
  obtain ⟨A2, hA2⟩ : ∃ A2, (if cp = 1 then some a else some ⟨a.block, a.off + 1, none⟩) = A2 := ⟨_, rfl⟩
  have HA2 : Hid (SlB W B A2 t ∧ (A2 = none → cp - 1 = 0)) := by
    have := HS.out.cut (show (c :: t).length ≤ cp from hlc) 1
    rw [hA2] at this
    exact ⟨this, fun h => by rw [← hA2] at h; split at h <;> cases h⟩
  go_enter Try.func110, Try.ntmps110
  go_wp2_with fail
  obtain ⟨w1, hw1⟩ : ∃ w1, W.alloc (.cells #[.int .i64 0, .int .i64 0, .string ⟨#[]⟩] 24) = w1 := ⟨_, rfl⟩
  have HB1 : Hid (Below W.heap.size W w1) := by rw [← hw1]; exact (Below.refl _ _).alloc (Nat.le_refl _) _
  have HR1 : Hid (ValAt w1 W.heap.size 0 0 ⟨#[]⟩) := by rw [← hw1]; exact valAt_new W 0 0 ⟨#[]⟩
  have HNE : Hid (W.heap.size ≠ w1.heap.size) := by show _ ≠ _; rw [← hw1]; simp
  rw [hw1]
  have hwk : IntKind.i64.wrap (c.toNat : Int) = (c.toNat : Int) := by have := c.toNat_lt; rw [IntKind.wrap_i64]; omega
  have hn1 : ¬ ((t.length : Int) + 1 < 1) := by omega
  have hln : (0 : Int) < (t.length : Int) + 1 := by omega
  refine wp_region_held_drew (S := fun W' => Below w1.heap.size w1 W') (by kernel_rfl) ((Below.refl _ w1).drew) (fun hHeld => ?_)
  refine takeV 0 (some 12) ((.slice (some a) (t.length + 1) cp)) rfl rfl (by kernel_rfl) (by kernel_rfl) (by kernel_rfl) (fun _ _ _ h => h) (by rfl) (by (intro _w _hSw; (try dsimp only at _hSw); go_simp)) (by assumption) ?_
  simp only [Act.put, List.setIfInBounds_toArray, List.set_cons_zero, List.set_cons_succ]
  refine takeV 1 (some 13) ((.pointer (some a))) rfl rfl (by kernel_rfl) (by kernel_rfl) (by kernel_rfl) (fun _ _ _ h => h) (by rfl) (by (intro _w _hSw; (try dsimp only at _hSw); go_simp)) (by assumption) ?_
  simp only [Act.put, List.setIfInBounds_toArray, List.set_cons_zero, List.set_cons_succ]
  refine takeV 2 (some 14) ((.int .u8 c.toNat)) rfl rfl (by kernel_rfl) (by kernel_rfl) (by kernel_rfl) (fun _ _ _ h => h) (by rfl) (by (intro _w hSw; have q1 := (hSw.cell (p := a) (Nat.lt_of_lt_of_le hal HB1.out.size)).trans ((HB1.out.cell (p := a) hal).trans HCL.out); clear hSw; go_simp)) (by assumption) ?_
  simp only [Act.put, List.setIfInBounds_toArray, List.set_cons_zero, List.set_cons_succ]
  refine takeV 3 (some 15) ((.int .i64 (c.toNat : Int))) rfl rfl (by kernel_rfl) (by kernel_rfl) (by kernel_rfl) (fun _ _ _ h => h) (by rfl) (by (intro _w _hSw; (try dsimp only at _hSw); go_simp)) (by assumption) ?_
  simp only [Act.put, List.setIfInBounds_toArray, List.set_cons_zero, List.set_cons_succ]
  refine takeV 4 (some 16) ((.agg #[.int .i64 (c.toNat : Int), .int .i64 0, .string ⟨#[]⟩])) rfl rfl (by kernel_rfl) (by kernel_rfl) (by kernel_rfl) (fun _ _ _ h => h) (by rfl) (by (intro _w _hSw; (try dsimp only at _hSw); go_simp)) (by assumption) ?_
  simp only [Act.put, List.setIfInBounds_toArray, List.set_cons_zero, List.set_cons_succ]
  refine takeV 5 (some 17) ((.slice (some a) (t.length + 1) cp)) rfl rfl (by kernel_rfl) (by kernel_rfl) (by kernel_rfl) (fun _ _ _ h => h) (by rfl) (by (intro _w _hSw; (try dsimp only at _hSw); go_simp)) (by assumption) ?_
  simp only [Act.put, List.setIfInBounds_toArray, List.set_cons_zero, List.set_cons_succ]
  refine takeV 6 (some 18) ((.slice A2 t.length (cp - 1))) rfl rfl (by kernel_rfl) (by kernel_rfl) (by kernel_rfl) (fun _ _ _ h => h) (by rfl) (by (intro _w hSw; clear hHeld; clear hSw; go_simp)) (by assumption) ?_
  simp only [Act.put, List.setIfInBounds_toArray, List.set_cons_zero, List.set_cons_succ]
  refine callV 7 rfl (by kernel_rfl) (by rfl) (fun K hK => ?_)
  go_simp
  refine hK.out _ _ (below_dr ((Below.refl _ w1).alloc (Nat.le_refl _) _)) (fun hHeld2 => ?_)
  clear hK K hHeld
  try simp only [Act.put, List.setIfInBounds_toArray, List.set_cons_zero, List.set_cons_succ]
  refine callV 8 rfl (by kernel_rfl) (by rfl) (fun K hK => ?_)
  go_simp
  refine hK.out _ _ (below_dr ((Below.refl _ w1).alloc (Nat.le_refl _) _)) (fun hHeld3 => ?_)
  clear hK K hHeld2
  try simp only [Act.put, List.setIfInBounds_toArray, List.set_cons_zero, List.set_cons_succ]
  refine takeV 9 (some 6) ((.slice A2 t.length (cp - 1))) rfl rfl (by kernel_rfl) (by kernel_rfl) (by kernel_rfl) (fun _ _ _ h => h) (by rfl) (by (intro _w _hSw; (try dsimp only at _hSw); go_simp)) (by assumption) ?_
  simp only [Act.put, List.setIfInBounds_toArray, List.set_cons_zero, List.set_cons_succ]
  refine takeV 10 (some 7) ((.bool false)) rfl rfl (by kernel_rfl) (by kernel_rfl) (by kernel_rfl) (fun _ _ _ h => h) (by rfl) (by (intro _w _hSw; (try dsimp only at _hSw); go_simp)) (by assumption) ?_
  simp only [Act.put, List.setIfInBounds_toArray, List.set_cons_zero, List.set_cons_succ]
  refine wpAnyH_done (by kernel_rfl) ?_ _
  obtain ⟨w2, hw2⟩ : ∃ w2, (w1.alloc (.cells #[.int .i64 (c.toNat : Int), .int .i64 0, .string ⟨#[]⟩] 24)).drew = w2 := ⟨_, rfl⟩
  have HV2 : Hid (ValAt w2 w1.heap.size (c.toNat : Int) 0 ⟨#[]⟩) := by rw [← hw2]; exact valAt_new w1 (c.toNat : Int) 0 ⟨#[]⟩
  have HB2 : Hid (Below w1.heap.size w1 w2) := by rw [← hw2]; exact hHeld3
  have HB12 : Hid (Below W.heap.size W w2) := HB1.out.trans (HB2.out.mono HB1.out.size)
  rw [hw2]
  clear hw2 hHeld3 hw1
  have hR2 : Hid (ValAt w2 W.heap.size 0 0 ⟨#[]⟩) := HR1.out.next HB2.out HR1.out.lt
  have k0 := HV2.out.c0
  have k1 := HV2.out.c1
  have k2 := HV2.out.c2
  go_wp2_with fail
  have HV4 := HV2
  have HR4 := hR2
  have HB4 := HB12
  clear k0 k1 k2
  refine wp_region_held_drew (S := fun W' => ValAt W' w1.heap.size (c.toNat : Int) 0 ⟨#[]⟩) (by kernel_rfl) HV4.out.dr (fun hHeld => ?_)
  refine takeV 0 (some 52) ((.agg #[.int .i64 (c.toNat : Int), .int .i64 0, .string ⟨#[]⟩])) rfl rfl (by kernel_rfl) (by kernel_rfl) (by kernel_rfl) (fun _ _ _ h => h) (by rfl) (by (intro _w hSw; have q0 := ValAt.c0 hSw; have q1 := ValAt.c1 hSw; have q2 := ValAt.c2 hSw; clear hSw; go_simp)) (by assumption) ?_
  simp only [Act.put, List.setIfInBounds_toArray, List.set_cons_zero, List.set_cons_succ]
  refine takeV 1 (some 53) ((.slice A2 t.length (cp - 1))) rfl rfl (by kernel_rfl) (by kernel_rfl) (by kernel_rfl) (fun _ _ _ h => h) (by rfl) (by (intro _w _hSw; (try dsimp only at _hSw); go_simp)) (by assumption) ?_
  simp only [Act.put, List.setIfInBounds_toArray, List.set_cons_zero, List.set_cons_succ]
  refine takeV 2 (some 54) ((.bool false)) rfl rfl (by kernel_rfl) (by kernel_rfl) (by kernel_rfl) (fun _ _ _ h => h) (by rfl) (by (intro _w _hSw; (try dsimp only at _hSw); go_simp)) (by assumption) ?_
  simp only [Act.put, List.setIfInBounds_toArray, List.set_cons_zero, List.set_cons_succ]
  refine takeV 3 (some 55) ((.bool false)) rfl rfl (by kernel_rfl) (by kernel_rfl) (by kernel_rfl) (fun _ _ _ h => h) (by rfl) (by (intro _w _hSw; (try dsimp only at _hSw); go_simp)) (by assumption) ?_
  simp only [Act.put, List.setIfInBounds_toArray, List.set_cons_zero, List.set_cons_succ]
  have hHeld5 := HV4.out
  have hR5 := HR4.out
  have HB5 := HB4
  refine skipV 4 (some 56) rfl rfl (by kernel_rfl) (by kernel_rfl) (by kernel_rfl) (fun _ _ _ h => h) (by rfl) (by assumption) ?_
  simp only [Act.put, List.setIfInBounds_toArray, List.set_cons_zero, List.set_cons_succ]
  refine skipV 5 (some 57) rfl rfl (by kernel_rfl) (by kernel_rfl) (by kernel_rfl) (fun _ _ _ h => h) (by rfl) (by assumption) ?_
  simp only [Act.put, List.setIfInBounds_toArray, List.set_cons_zero, List.set_cons_succ]
  refine skipV 6 (some 58) rfl rfl (by kernel_rfl) (by kernel_rfl) (by kernel_rfl) (fun _ _ _ h => h) (by rfl) (by assumption) ?_
  simp only [Act.put, List.setIfInBounds_toArray, List.set_cons_zero, List.set_cons_succ]
  refine takeV 7 (some 59) ((.bool false)) rfl rfl (by kernel_rfl) (by kernel_rfl) (by kernel_rfl) (fun _ _ _ h => h) (by rfl) (by (intro _w _hSw; (try dsimp only at _hSw); go_simp)) (by assumption) ?_
  simp only [Act.put, List.setIfInBounds_toArray, List.set_cons_zero, List.set_cons_succ]
  have g0 := hR5.c0
  have g1 := hR5.c1
  have g2 := hR5.c2
  have z0 := hR5.fz 0
  have z1 := hR5.fz 1
  have z2 := hR5.fz 2
  have hF := ((hR5.set0 (c.toNat : Int)).set1 0).set2 ⟨#[]⟩
  have HF := Lib.hid hF
  refine callV 8 rfl (by kernel_rfl) (by rfl) (fun K hK => ?_)
  go_simp
  refine hK.out _ _ (ValAt.dr (ValAt.far (ValAt.far (ValAt.far hHeld5 HNE.out.symm _) HNE.out.symm _) HNE.out.symm _)) (fun hHeld6 => ?_)
  clear hK K g0 g1 g2 z0 z1 z2 hR5 hF
  try simp only [Act.put, List.setIfInBounds_toArray, List.set_cons_zero, List.set_cons_succ]
  refine takeV 9 (some 3) ((.slice A2 t.length (cp - 1))) rfl rfl (by kernel_rfl) (by kernel_rfl) (by kernel_rfl) (fun _ _ _ h => h) (by rfl) (by (intro _w _hSw; (try dsimp only at _hSw); go_simp)) (by assumption) ?_
  simp only [Act.put, List.setIfInBounds_toArray, List.set_cons_zero, List.set_cons_succ]
  refine takeV 10 (some 4) ((.bool false)) rfl rfl (by kernel_rfl) (by kernel_rfl) (by kernel_rfl) (fun _ _ _ h => h) (by rfl) (by (intro _w _hSw; (try dsimp only at _hSw); go_simp)) (by assumption) ?_
  simp only [Act.put, List.setIfInBounds_toArray, List.set_cons_zero, List.set_cons_succ]
  refine wpAnyH_done (by kernel_rfl) ?_ _
  have g0 := HF.out.c0
  have g1 := HF.out.c1
  have g2 := HF.out.c2
  go_wp2
  refine bodyPost_ret (v := .tuple #[valV (c.toNat : Int) 0 ⟨#[]⟩, .slice A2 t.length (cp - 1), .bool false]) ?_ rfl ?_
  · rw [results_cell_tmp2 rfl]
    unfold valV
    go_simp
  · refine ⟨.inr ⟨oneR_else h1 h2 h3 h4 h5 h6 h7, _, _, _, _, rfl⟩, below_dr (((HB5.out.setCell (p := ⟨W.heap.size, 0, none⟩) (Nat.le_refl _) _).setCell (p := ⟨W.heap.size, 1, none⟩) (Nat.le_refl _) _).setCell (p := ⟨W.heap.size, 2, none⟩) (Nat.le_refl _) _)⟩

set_option maxRecDepth 100000 in
set_option maxHeartbeats 1000000 in
theorem readValue_nil (A : Option Addr) (cp : Nat) (W : World) (B : Nat) :
    Calls Try.prog 110 #[.slice A 0 cp] W (ValRd W B []) := by
  have HR1 := Lib.hid (valAt_new W 0 0 ⟨#[]⟩)
  have g0 := HR1.out.c0
  have g1 := HR1.out.c1
  have g2 := HR1.out.c2
  have z0 := HR1.out.fz 0
  have z1 := HR1.out.fz 1
  have z2 := HR1.out.fz 2
  have HF := Lib.hid (((HR1.out.set0 0).set1 0).set2 ⟨#[]⟩)
  go_enter Try.func110, Try.ntmps110
  go_wp2
  refine bodyPost_ret (v := .tuple #[valV 0 0 ⟨#[]⟩, .slice none 0 0, .bool false]) ?_ rfl ?_
  · rw [results_cell_tmp2 rfl]
    have h0 := HF.out.c0
    have h1 := HF.out.c1
    have h2 := HF.out.c2
    unfold valV
    go_simp
  · exact ⟨.inr ⟨rfl, _, _, _, _, rfl⟩, (((Below.refl W.heap.size W).alloc (Nat.le_refl _) _))⟩

theorem readValue_any (A : Option Addr) (cp : Nat) (l : List UInt8) (W : World) (B : Nat) (hBW : B ≤ W.heap.size) (hs : SlB W B A l) (hlc : l.length ≤ cp) (hc : cp ≤ maxLen) (hl : l.length ≤ 10000) :
    Calls Try.prog 110 #[.slice A l.length cp] W (ValRd W B l) := by
  cases l with
  | nil => exact readValue_nil A cp W B
  | cons c t =>
    obtain ⟨a, rfl, _, _⟩ := hs (by simp)
    have hl' : t.length ≤ 10000 := by rw [List.length_cons] at hl; omega
    by_cases h1 : c = 1; · exact readValue_1 a cp c t W B hBW hs hlc hc hl' h1
    by_cases h2 : c = 2; · exact readValue_2 a cp c t W B hBW hs hlc hc hl' h2
    by_cases h3 : c = 3; · exact readValue_3 a cp c t W B hBW hs hlc hc hl' h3
    by_cases h4 : c = 4; · exact readValue_4 a cp c t W B hBW hs hlc hc hl' h4
    by_cases h5 : c = 5; · exact readValue_5 a cp c t W B hBW hs hlc hc hl' h5
    by_cases h6 : c = 6; · exact readValue_6 a cp c t W B hBW hs hlc hc hl' h6
    by_cases h7 : c = 7; · exact readValue_7 a cp c t W B hBW hs hlc hc hl' h7
    exact readValue_else a cp c t W B hBW hs hlc hc hl' h1 h2 h3 h4 h5 h6 h7
end Go.Proofs.Ytkoknogefmfmnaa
