/-
  THE LAW RowsOf.
-/
import Derived.Test.YtafnhhbdcleihaaZTold2
import Derived.Test.YtafnhhbdcleihaaZOwn
import Derived.Test.YtafnhhbdcleihaaZRefOf
namespace Go.Proofs.Ytafnhhbdcleihaa
open Go.RowKit

theorem longB_tx {n : Nat} {R R' : List Rw} (h : txR R' = txR R) : longB n R' = longB n R := by
  have e : ∀ R : List Rw, longB n R = (txR R).all fun l => decide (l.length = n) := fun R => by
    unfold longB txR
    rw [List.all_map]; rfl
  rw [e, e, h]
theorem ofC_tx {cols : List ByteArray} {R R' : List Rw} (h : txR R' = txR R) : ofC cols R' = ofC cols R := by
  unfold ofC
  rw [longB_tx h, h]
theorem small_tx {n : Nat} {R R' : List Rw} (h : txR R' = txR R) (hs : Small n R) : Small n R' := by
  obtain ⟨h1, h2, h3⟩ := hs
  have hl : R'.length = R.length := by rw [← txR_len, h, txR_len]
  refine ⟨h1, by omega, fun r hr => ?_⟩
  have hm : r.l ∈ txR R := by rw [← h]; exact List.mem_map.2 ⟨r, hr, rfl⟩
  obtain ⟨q, hq, e⟩ := List.mem_map.1 hm
  rw [← e]; exact h3 q hq
theorem ansR_nil (W : World) (B : Nat) : AnsR W B (.slice none 0 0) [] := (ownR_nil W B).ans
/-- what Of answers, as told wants it -/
theorem ofEnd_ans {w w' : World} {cols : List ByteArray} {R : List Rw} {vc vr : Value}
    (h : (ofC cols R = 0 ∧ OwnC w' w.heap.size vc cols ∧ ∃ R', OwnR w' w.heap.size vr R' ∧ txR R' = putsG ordR (txR R)) ∨ (ofC cols R ≠ 0 ∧ vc = .slice none 0 0 ∧ vr = .slice none 0 0)) :
    ∃ c2 R2, OwnC w' w.heap.size vc c2 ∧ AnsR w' w.heap.size vr R2 ∧ (∀ b1 b2 n1 k1 n2 k2, vc = .slice (some b1) n1 k1 → vr = .slice (some b2) n2 k2 → b1.block ≠ b2.block) ∧ c2 = (if ofC cols R = 0 then cols else []) ∧ txR R2 = (if ofC cols R = 0 then putsG ordR (txR R) else []) := by
  rcases h with ⟨h0, hc, R', hr, ht⟩ | ⟨h0, rfl, rfl⟩
  · refine ⟨cols, R', hc, hr.ans, fun b1 b2 n1 k1 n2 k2 e1 e2 e3 => ?_, by rw [if_pos h0], by rw [if_pos h0]; exact ht⟩
    subst e1 e2
    rcases hc.2 with ⟨ea, _⟩ | ⟨g, cap, cur, ea, _, hga, _⟩
    · cases ea
    · rcases hr.o.2 with ⟨eb, _⟩ | ⟨g', cap', cur', eb, _, hgb, _⟩
      · cases eb
      · injection ea with ea
        injection ea with ea
        injection eb with eb
        injection eb with eb
        rw [ea, eb] at e3
        simp only at e3
        subst e3
        rw [hga] at hgb
        injection hgb with hgb
        injection hgb with _ hgb _
        exact absurd hgb (by decide)
  · exact ⟨[], [], own1_nil _ _ _ _, ansR_nil _ _, (fun b1 b2 n1 k1 n2 k2 e1 => by cases e1), by rw [if_neg h0], by rw [if_neg h0]; rfl⟩
/-- what the document answers, as told wants it -/
theorem refEnd_ans {w w' : World} {A : Option Addr} {c : Nat} {cols : List ByteArray} {T : List (List Vl)} {code : Int} {vc vr : Value} (hs : SlC w' w'.heap.size A cols)
    (h : (code = 0 ∧ vc = .slice A cols.length c ∧ ∃ R', RdR w' w.heap.size vr R' ∧ txR R' = T) ∨ (code ≠ 0 ∧ vc = .slice none 0 0 ∧ vr = .slice none 0 0)) :
    ∃ A3 A4 k3 k4 c2 R2, vc = .slice A3 c2.length k3 ∧ vr = .slice A4 R2.length k4 ∧ SlC w' w'.heap.size A3 c2 ∧ SlR w' w'.heap.size A4 R2 ∧ c2 = (if code = 0 then cols else []) ∧ txR R2 = (if code = 0 then T else []) := by
  rcases h with ⟨h0, rfl, R', ⟨A4, k4, e, hr, _⟩, ht⟩ | ⟨h0, rfl, rfl⟩
  · exact ⟨A, A4, c, k4, cols, R', rfl, e, hs, hr, by rw [if_pos h0], by rw [if_pos h0]; exact ht⟩
  · exact ⟨none, none, 0, 0, [], [], rfl, rfl, sl1_nil, ⟨sl1_nil, fun r hr => by cases hr⟩, by rw [if_neg h0], by rw [if_neg h0]; rfl⟩

theorem AnsR.next {W W' : World} {B : Nat} {v : Value} {R : List Rw} (h : AnsR W B v R) (hb : Below W.heap.size W W') : AnsR W' B v R := by
  obtain ⟨⟨A, c, e, hs, h1, h2, h3, h4⟩, hi, hz⟩ := h
  exact ⟨⟨A, c, e, Sl1.up hs hb (Nat.le_refl _), h1, h2, h3, h4⟩, fun x hx => (hi x hx).next hb, hz⟩
set_option maxRecDepth 100000 in
set_option maxHeartbeats 4000000 in
theorem rowsOfL_any (A : Option Addr) (c : Nat) (cols : List ByteArray) (A' : Option Addr) (c' : Nat) (R : List Rw) (w : World) (hc : SlC w w.heap.size A cols) (hR : SlR w w.heap.size A' R) (hn : A = none → cols.length = 0 ∧ c = 0) (_hlc : cols.length ≤ c) :
    Calls Try.prog 3 #[.slice A cols.length c, .slice A' R.length c'] w fun e w' => e = .returned (.bool true) ∧ Below w.heap.size w w' := by
  have HC := Lib.hid hc
  have HR := Lib.hid hR
  have HN := Lib.hid hn
  have HG := Lib.hid (great_any A cols.length c A' c' R w w.heap.size hR)
  clear hc hR hn
  go_enter Try.func3, Try.ntmps3
  go_wp2_with fail
  refine HG.out.mono ?_
  rintro e w' ⟨⟨q, rfl, hq⟩, rfl⟩
  cases q with
  | true =>
    go_wp2
    go_ret
    exact ⟨rfl, Below.refl _ _⟩
  | false =>
    have hsm := hq rfl
    have HSM := Lib.hid hsm
    have hl1 := hsm.1
    have hl2 := hsm.2.1
    clear hq hsm
    go_wp2_with fail
    refine (own_any A c cols A' c' R w HC.out HR.out HN.out (by omega) (by omega) (fun r hr => by have := HSM.out.2.2 r hr; omega)).mono ?_
    rintro e w1 ⟨vc1, vr1, R1, rfl, ho1, hr1, ht1, hb1⟩
    obtain ⟨A1, c1, rfl, hs1, hlc1, hcm1, hn1, _⟩ := ho1.form
    obtain ⟨A2, c2, rfl, hs2, hlc2, hcm2, hn2, _⟩ := hr1.form
    have hln1 : R1.length = R.length := by rw [← txR_len, ht1, txR_len]
    have HB1 := Lib.hid hb1
    have HT1 := Lib.hid ht1
    obtain ⟨w2, hw2⟩ : ∃ w2, w1.alloc (.cells #[.slice A1 cols.length c1, .slice A2 R1.length c2] 26) = w2 := ⟨_, rfl⟩
    have hb2 : Below w1.heap.size w1 w2 := by rw [← hw2]; exact (Below.refl _ _).alloc (Nat.le_refl _) _
    have hz2 : w2.heap.size = w1.heap.size + 1 := by rw [← hw2]; simp
    have x0 : w2.cell? ⟨w1.heap.size, 0, none⟩ = some (.slice A1 cols.length c1) := by rw [← hw2, World.cell?_alloc_new]; rfl
    have x1 : w2.cell? ⟨w1.heap.size, 1, none⟩ = some (.slice A2 R1.length c2) := by rw [← hw2, World.cell?_alloc_new]; rfl
    have HXX := Lib.hid (show w2.cell? ⟨w1.heap.size, 0, none⟩ = some (.slice A1 cols.length c1) ∧ w2.cell? ⟨w1.heap.size, 1, none⟩ = some (.slice A2 R1.length c2) ∧ w1.heap.size < w2.heap.size from ⟨x0, x1, by omega⟩)
    have HB2 : Hid (Below w.heap.size w w2) := hb1.trans (hb2.mono hb1.size)
    have HS1 := Lib.hid (Sl1.up hs1 hb2 (Nat.le_refl _))
    have HS2 := Lib.hid (hs2.up hb2 (Nat.le_refl _))
    have HN1 := Lib.hid hn1
    have HN2 := Lib.hid hn2
    have HSR := Lib.hid (HR.out.up HB2.out (Nat.le_refl _))
    have HSC := Lib.hid (Sl1.up HC.out HB2.out (Nat.le_refl _))
    have HSM1 := Lib.hid (small_tx ht1 HSM.out)
    clear hs1 hs2 ho1 hr1 ht1 hb1 hb2 hz2 hn1 hn2 hcm1 hcm2 x0 x1
    rw [hln1] at HXX hlc2
    have HLN := Lib.hid hln1
    rw [hln1] at hw2
    rw [hln1]
    clear hln1
    go_wp2
    go_loopg [6] (R.length + 1) (fun g x6 wr => ∃ j : Nat, x6 = .int .i64 j ∧ 1 ≤ j ∧ j ≤ R.length + 1 ∧ R.length + 1 - j ≤ g ∧ Hid (Below w2.heap.size w2 wr))
    case atStart => exact ⟨1, rfl, Nat.le_refl _, by omega, by omega, Below.refl _ _⟩
    case round =>
      clear hw2
      obtain ⟨j, rfl, hj1, hj2, hj3, HB⟩ := hrel
      have x0 := (HB.out.cell (p := ⟨w1.heap.size, 0, none⟩) HXX.out.2.2).trans HXX.out.1
      have x1 := (HB.out.cell (p := ⟨w1.heap.size, 1, none⟩) HXX.out.2.2).trans HXX.out.2.1
      have hblt : w1.heap.size < wr.heap.size := Nat.lt_of_lt_of_le HXX.out.2.2 HB.out.size
      by_cases h1 : j < R.length
      · have h1i : (j : Int) < (R.length : Int) := by omega
        have hw1 : IntKind.i64.wrap ((j : Int) - 1) = ((j - 1 : Nat) : Int) := by
          rw [show ((j - 1 : Nat) : Int) = (j : Int) - 1 from by omega]; exact IntWalk.i64_in _ (by omega)
        have hj0 : j - 1 < R.length := by omega
        have hjx : j < R1.length := by rw [HLN.out]; exact h1
        have hj0x : j - 1 < R1.length := by rw [HLN.out]; exact hj0
        obtain ⟨e1, o1, r3, hA1, hlt1, hr3, p3, hok3⟩ := (HS2.out.up HB.out (Nat.le_refl _)).at_ hj0x
        obtain ⟨e1', o1', r4, hA1', _, hr4, p4, hok4⟩ := (HS2.out.up HB.out (Nat.le_refl _)).at_ hjx
        obtain ⟨e2, o2, r5, hA2, hlt2, hr5, p5, hok5⟩ := (HSR.out.up HB.out (Nat.le_refl _)).at_ hj0
        obtain ⟨e2', o2', r6, hA2', _, hr6, p6, hok6⟩ := (HSR.out.up HB.out (Nat.le_refl _)).at_ h1
        subst hA1 hA2
        injection hA1' with hA1'
        injection hA1' with hx1 hx2
        injection hA2' with hA2'
        injection hA2' with hx3 hx4
        subst hx1 hx2 hx3 hx4
        have h35 : r3.l = r5.l := by
          have a := txR_at hr3
          rw [HT1.out, txR_at hr5] at a
          exact (Option.some.inj a).symm
        have h46 : r4.l = r6.l := by
          have a := txR_at hr4
          rw [HT1.out, txR_at hr6] at a
          exact (Option.some.inj a).symm
        have HCA := Lib.hid (fun W (hb : Below wr.heap.size wr W) => cmpR_any r3 r4 W (hok3.up hb (Nat.le_refl _)) (hok4.up hb (Nat.le_refl _)))
        have HCB := Lib.hid (fun W (hb : Below wr.heap.size wr W) => refCmpR_any r5 r6 W (hok5.up hb (Nat.le_refl _)) (hok6.up hb (Nat.le_refl _)))
        rw [← h35, ← h46] at HCB
        obtain ⟨q, hq⟩ : ∃ q, ordR r3.l r4.l = q := ⟨_, rfl⟩
        rw [hq] at HCA HCB
        have HP := Lib.hid (show (wr.cell? ⟨e1, o1 + (j - 1), none⟩ = _ ∧ wr.cell? ⟨e1, o1 + j, none⟩ = _ ∧ e1 < wr.heap.size) ∧ (wr.cell? ⟨e2, o2 + (j - 1), none⟩ = _ ∧ wr.cell? ⟨e2, o2 + j, none⟩ = _ ∧ e2 < wr.heap.size) ∧ wr.cell? ⟨w1.heap.size, 1, none⟩ = _ ∧ w1.heap.size < wr.heap.size from ⟨⟨p3, p4, hlt1⟩, ⟨p5, p6, hlt2⟩, x1, hblt⟩)
        obtain ⟨A3, c3, l3⟩ := r3
        obtain ⟨A4, c4, l4⟩ := r4
        obtain ⟨A5, c5, l5⟩ := r5
        obtain ⟨A6, c6, l6⟩ := r6
        unfold cellR at HCA HCB
        clear hok3 hok4 hok5 hok6 hr3 hr4 hr5 hr6 h35 h46 hq p3 p4 p5 p6 x0 x1
        go_wp2_with fail
        obtain ⟨wd, hwd⟩ : ∃ wd, wr.drew = wd := ⟨_, rfl⟩
        have HSN : Hid (Snc wr wd) := by show Snc _ _; rw [← hwd]; exact (Below.refl _ _).drew
        refine wp_region_held_drew (S := Snc wr) (by kernel_rfl) (by rw [hwd]; exact HSN.out) (fun hHeld => ?_)
        rw [hwd] at hHeld ⊢
        clear hwd
        refine takeV 0 (some 24) ((.pointer (some ⟨w1.heap.size, 1, none⟩))) rfl rfl (by kernel_rfl) (by kernel_rfl) (by kernel_rfl) (fun _ _ _ h => h) (by rfl) (by (intro _w _hSw; (try dsimp only at _hSw); go_simp)) (by assumption) ?_
        simp only [Act.put, List.setIfInBounds_toArray, List.set_cons_zero, List.set_cons_succ]
        refine takeV 1 (some 25) ((.slice (some ⟨e1, o1, none⟩) R.length c2)) rfl rfl (by kernel_rfl) (by kernel_rfl) (by kernel_rfl) (fun _ _ _ h => h) (by rfl) (by (intro _w hSw; have k0 := (Below.cell (p := ⟨w1.heap.size, 1, none⟩) hSw HP.out.2.2.2).trans HP.out.2.2.1; clear hSw; go_simp)) (by assumption) ?_
        simp only [Act.put, List.setIfInBounds_toArray, List.set_cons_zero, List.set_cons_succ]
        refine takeV 2 (some 26) ((.int .i64 j)) rfl rfl (by kernel_rfl) (by kernel_rfl) (by kernel_rfl) (fun _ _ _ h => h) (by rfl) (by (intro _w _hSw; (try dsimp only at _hSw); go_simp)) (by assumption) ?_
        simp only [Act.put, List.setIfInBounds_toArray, List.set_cons_zero, List.set_cons_succ]
        refine takeV 3 (some 27) ((.int .i64 ((j - 1 : Nat) : Int))) rfl rfl (by kernel_rfl) (by kernel_rfl) (by kernel_rfl) (fun _ _ _ h => h) (by rfl) (by (intro _w _hSw; (try dsimp only at _hSw); go_simp)) (by assumption) ?_
        simp only [Act.put, List.setIfInBounds_toArray, List.set_cons_zero, List.set_cons_succ]
        refine takeV 4 (some 28) ((.pointer (some ⟨e1, o1 + (j - 1), none⟩))) rfl rfl (by kernel_rfl) (by kernel_rfl) (by kernel_rfl) (fun _ _ _ h => h) (by rfl) (by (intro _w _hSw; (try dsimp only at _hSw); go_simp)) (by assumption) ?_
        simp only [Act.put, List.setIfInBounds_toArray, List.set_cons_zero, List.set_cons_succ]
        refine takeV 5 (some 29) ((.slice A3 l3.length c3)) rfl rfl (by kernel_rfl) (by kernel_rfl) (by kernel_rfl) (fun _ _ _ h => h) (by rfl) (by (intro _w hSw; have k0 := (Below.cell (p := ⟨e1, o1 + (j - 1), none⟩) hSw HP.out.1.2.2).trans HP.out.1.1; clear hSw; go_simp)) (by assumption) ?_
        simp only [Act.put, List.setIfInBounds_toArray, List.set_cons_zero, List.set_cons_succ]
        refine takeV 6 (some 30) ((.pointer (some ⟨w1.heap.size, 1, none⟩))) rfl rfl (by kernel_rfl) (by kernel_rfl) (by kernel_rfl) (fun _ _ _ h => h) (by rfl) (by (intro _w _hSw; (try dsimp only at _hSw); go_simp)) (by assumption) ?_
        simp only [Act.put, List.setIfInBounds_toArray, List.set_cons_zero, List.set_cons_succ]
        refine takeV 7 (some 31) ((.slice (some ⟨e1, o1, none⟩) R.length c2)) rfl rfl (by kernel_rfl) (by kernel_rfl) (by kernel_rfl) (fun _ _ _ h => h) (by rfl) (by (intro _w hSw; have k0 := (Below.cell (p := ⟨w1.heap.size, 1, none⟩) hSw HP.out.2.2.2).trans HP.out.2.2.1; clear hSw; go_simp)) (by assumption) ?_
        simp only [Act.put, List.setIfInBounds_toArray, List.set_cons_zero, List.set_cons_succ]
        refine takeV 8 (some 32) ((.int .i64 j)) rfl rfl (by kernel_rfl) (by kernel_rfl) (by kernel_rfl) (fun _ _ _ h => h) (by rfl) (by (intro _w _hSw; (try dsimp only at _hSw); go_simp)) (by assumption) ?_
        simp only [Act.put, List.setIfInBounds_toArray, List.set_cons_zero, List.set_cons_succ]
        refine takeV 9 (some 33) ((.pointer (some ⟨e1, o1 + j, none⟩))) rfl rfl (by kernel_rfl) (by kernel_rfl) (by kernel_rfl) (fun _ _ _ h => h) (by rfl) (by (intro _w _hSw; (try dsimp only at _hSw); go_simp)) (by assumption) ?_
        simp only [Act.put, List.setIfInBounds_toArray, List.set_cons_zero, List.set_cons_succ]
        refine takeV 10 (some 34) ((.slice A4 l4.length c4)) rfl rfl (by kernel_rfl) (by kernel_rfl) (by kernel_rfl) (fun _ _ _ h => h) (by rfl) (by (intro _w hSw; have k0 := (Below.cell (p := ⟨e1, o1 + j, none⟩) hSw HP.out.1.2.2).trans HP.out.1.2.1; clear hSw; go_simp)) (by assumption) ?_
        simp only [Act.put, List.setIfInBounds_toArray, List.set_cons_zero, List.set_cons_succ]
        refine takeV 12 (some 36) ((.slice (some ⟨e2, o2, none⟩) R.length c')) rfl rfl (by kernel_rfl) (by kernel_rfl) (by kernel_rfl) (fun _ _ _ h => h) (by rfl) (by (intro _w _hSw; (try dsimp only at _hSw); go_simp)) (by assumption) ?_
        simp only [Act.put, List.setIfInBounds_toArray, List.set_cons_zero, List.set_cons_succ]
        refine takeV 13 (some 37) ((.int .i64 j)) rfl rfl (by kernel_rfl) (by kernel_rfl) (by kernel_rfl) (fun _ _ _ h => h) (by rfl) (by (intro _w _hSw; (try dsimp only at _hSw); go_simp)) (by assumption) ?_
        simp only [Act.put, List.setIfInBounds_toArray, List.set_cons_zero, List.set_cons_succ]
        refine takeV 14 (some 38) ((.int .i64 ((j - 1 : Nat) : Int))) rfl rfl (by kernel_rfl) (by kernel_rfl) (by kernel_rfl) (fun _ _ _ h => h) (by rfl) (by (intro _w _hSw; (try dsimp only at _hSw); go_simp)) (by assumption) ?_
        simp only [Act.put, List.setIfInBounds_toArray, List.set_cons_zero, List.set_cons_succ]
        refine takeV 15 (some 39) ((.pointer (some ⟨e2, o2 + (j - 1), none⟩))) rfl rfl (by kernel_rfl) (by kernel_rfl) (by kernel_rfl) (fun _ _ _ h => h) (by rfl) (by (intro _w _hSw; (try dsimp only at _hSw); go_simp)) (by assumption) ?_
        simp only [Act.put, List.setIfInBounds_toArray, List.set_cons_zero, List.set_cons_succ]
        refine takeV 16 (some 40) ((.slice A5 l5.length c5)) rfl rfl (by kernel_rfl) (by kernel_rfl) (by kernel_rfl) (fun _ _ _ h => h) (by rfl) (by (intro _w hSw; have k0 := (Below.cell (p := ⟨e2, o2 + (j - 1), none⟩) hSw HP.out.2.1.2.2).trans HP.out.2.1.1; clear hSw; go_simp)) (by assumption) ?_
        simp only [Act.put, List.setIfInBounds_toArray, List.set_cons_zero, List.set_cons_succ]
        refine takeV 17 (some 41) ((.slice (some ⟨e2, o2, none⟩) R.length c')) rfl rfl (by kernel_rfl) (by kernel_rfl) (by kernel_rfl) (fun _ _ _ h => h) (by rfl) (by (intro _w _hSw; (try dsimp only at _hSw); go_simp)) (by assumption) ?_
        simp only [Act.put, List.setIfInBounds_toArray, List.set_cons_zero, List.set_cons_succ]
        refine takeV 18 (some 42) ((.int .i64 j)) rfl rfl (by kernel_rfl) (by kernel_rfl) (by kernel_rfl) (fun _ _ _ h => h) (by rfl) (by (intro _w _hSw; (try dsimp only at _hSw); go_simp)) (by assumption) ?_
        simp only [Act.put, List.setIfInBounds_toArray, List.set_cons_zero, List.set_cons_succ]
        refine takeV 19 (some 43) ((.pointer (some ⟨e2, o2 + j, none⟩))) rfl rfl (by kernel_rfl) (by kernel_rfl) (by kernel_rfl) (fun _ _ _ h => h) (by rfl) (by (intro _w _hSw; (try dsimp only at _hSw); go_simp)) (by assumption) ?_
        simp only [Act.put, List.setIfInBounds_toArray, List.set_cons_zero, List.set_cons_succ]
        refine takeV 20 (some 44) ((.slice A6 l6.length c6)) rfl rfl (by kernel_rfl) (by kernel_rfl) (by kernel_rfl) (fun _ _ _ h => h) (by rfl) (by (intro _w hSw; have k0 := (Below.cell (p := ⟨e2, o2 + j, none⟩) hSw HP.out.2.1.2.2).trans HP.out.2.1.2.1; clear hSw; go_simp)) (by assumption) ?_
        simp only [Act.put, List.setIfInBounds_toArray, List.set_cons_zero, List.set_cons_succ]
        refine callV 11 rfl (by kernel_rfl) (by rfl) (fun K hK => ?_)
        go_simp
        refine (HCA.out _ hHeld).mono ?_
        rintro e w3 ⟨rfl, hb3⟩
        refine hK.out _ _ (hHeld.next hb3) (fun hHeld3 => ?_)
        clear hK K hHeld hb3
        try simp only [Act.put, List.setIfInBounds_toArray, List.set_cons_zero, List.set_cons_succ]
        refine callV 21 rfl (by kernel_rfl) (by rfl) (fun K hK => ?_)
        go_simp
        refine (HCB.out _ hHeld3).mono ?_
        rintro e w4 ⟨rfl, hb4⟩
        have HB4 : Hid (Below wr.heap.size wr w4) := hHeld3.next hb4
        refine hK.out _ _ (hHeld3.next hb4) (fun _ => ?_)
        clear hK K hHeld3 hb4
        try simp only [Act.put, List.setIfInBounds_toArray, List.set_cons_zero, List.set_cons_succ]
        refine takeV 22 (some 46) ((.bool false)) rfl rfl (by kernel_rfl) (by kernel_rfl) (by kernel_rfl) (fun _ _ _ h => h) (by rfl) (by (intro _w _hSw; (try dsimp only at _hSw); go_simp)) (by assumption) ?_
        simp only [Act.put, List.setIfInBounds_toArray, List.set_cons_zero, List.set_cons_succ]
        refine wpAnyH_done (by kernel_rfl) ?_ _
        go_wp2
        go_roundg (R.length + 1 - (j + 1))
        case measure => omega
        case rel => exact ⟨j + 1, by go_num, by omega, by omega, Nat.le_refl _, HB.out.trans (HB4.out.mono HB.out.size)⟩
      · have h1i : ¬ (j : Int) < (R.length : Int) := by omega
        have HLW : Hid (w1.heap.size < wr.heap.size) := hblt
        have HOF := of_any A1 c1 cols A2 c2 R1 wr (Sl1.up HS1.out HB.out (Nat.le_refl _)) (HS2.out.up HB.out (Nat.le_refl _)) HN1.out HN2.out hlc1 (by omega) (by rw [HLN.out]; omega) (fun r hr => by have := HSM1.out.2.2 r hr; omega)
        rw [HLN.out] at HOF
        have HOFF := Lib.hid HOF
        clear HOF hblt
        go_wp2_with fail
        refine HOFF.out.mono ?_
        rintro e w4 ⟨hb4, vc, vr, rfl, hcase⟩
        obtain ⟨k2, R2, hoc, har, hcr, hk2, ht2⟩ := ofEnd_ans hcase
        obtain ⟨Aa, ca, rfl, _⟩ := hoc.form
        obtain ⟨Ab, cb, rfl, _⟩ := har.f
        have HB4 := Lib.hid hb4
        have HOC := Lib.hid hoc
        have HAR := Lib.hid har
        have HCR := Lib.hid hcr
        have HK2 := Lib.hid hk2
        have HT2 := Lib.hid ht2
        rw [ofC_tx HT1.out] at HK2 HT2
        rw [HT1.out] at HT2
        have HCO : Hid (ofC cols R1 = ofC cols R) := ofC_tx HT1.out
        rw [HCO.out]
        clear hb4 hcase hoc har hcr hk2 ht2 x0 x1 HOFF
        obtain ⟨w5, hw5⟩ : ∃ w5, w4.alloc (.cells #[.slice Aa k2.length ca, .slice Ab R2.length cb] 26) = w5 := ⟨_, rfl⟩
        have hb5 : Below w4.heap.size w4 w5 := by rw [← hw5]; exact (Below.refl _ _).alloc (Nat.le_refl _) _
        have hz5 : w5.heap.size = w4.heap.size + 1 := by rw [← hw5]; simp
        have y0 : w5.cell? ⟨w4.heap.size, 0, none⟩ = some (.slice Aa k2.length ca) := by rw [← hw5, World.cell?_alloc_new]; rfl
        have y1 : w5.cell? ⟨w4.heap.size, 1, none⟩ = some (.slice Ab R2.length cb) := by rw [← hw5, World.cell?_alloc_new]; rfl
        have HY := Lib.hid (show w5.cell? ⟨w4.heap.size, 0, none⟩ = some (.slice Aa k2.length ca) ∧ w5.cell? ⟨w4.heap.size, 1, none⟩ = some (.slice Ab R2.length cb) ∧ w4.heap.size < w5.heap.size from ⟨y0, y1, by omega⟩)
        have HB5 : Hid (Below wr.heap.size wr w5) := HB4.out.trans (hb5.mono HB4.out.size)
        have HB25 : Hid (Below w2.heap.size w2 w5) := HB.out.trans (HB5.out.mono HB.out.size)
        have HOC5 := Lib.hid (HOC.out.next hb5)
        have HAR5 := Lib.hid (HAR.out.next hb5)
        have HRO := Lib.hid (refOf_any A c cols A' c' R w5 (Sl1.up HSC.out HB25.out (Nat.le_refl _)) (by omega) (HSR.out.up HB25.out (Nat.le_refl _)) (by omega) (fun r hr => by have := HSM.out.2.2 r hr; omega))
        clear hb5 hz5 y0 y1
        go_wp2_with fail
        refine HRO.out.mono ?_
        rintro e w6 ⟨hb6, vc, vr, rfl, hcase⟩
        obtain ⟨A3, A4, k3, k4, l3, R3, rfl, rfl, hs3, hr3, hl3, ht3⟩ := refEnd_ans (Sl1.up HSC.out (HB25.out.trans (hb6.mono HB25.out.size)) (Nat.le_refl _)) hcase
        have HB6 := Lib.hid hb6
        have HL3 : Hid (k2 = l3) := HK2.out.trans hl3.symm
        have HT3 : Hid (txR R2 = txR R3) := HT2.out.trans ht3.symm
        have HS3 := Lib.hid hs3
        have HR3 := Lib.hid hr3
        clear hb6 hcase hs3 hr3 hl3 ht3 hw5 HRO
        obtain ⟨w7, hw7⟩ : ∃ w7, w6.alloc (.cells #[.slice A3 l3.length k3, .slice A4 R3.length k4] 34) = w7 := ⟨_, rfl⟩
        have hb7 : Below w6.heap.size w6 w7 := by rw [← hw7]; exact (Below.refl _ _).alloc (Nat.le_refl _) _
        have z0 : w7.cell? ⟨w6.heap.size, 0, none⟩ = some (.slice A3 l3.length k3) := by rw [← hw7, World.cell?_alloc_new]; rfl
        have z1 : w7.cell? ⟨w6.heap.size, 1, none⟩ = some (.slice A4 R3.length k4) := by rw [← hw7, World.cell?_alloc_new]; rfl
        have HB57 : Hid (Below w5.heap.size w5 w7) := HB6.out.trans (hb7.mono HB6.out.size)
        have y0 := (HB57.out.cell (p := ⟨w4.heap.size, 0, none⟩) HY.out.2.2).trans HY.out.1
        have y1 := (HB57.out.cell (p := ⟨w4.heap.size, 1, none⟩) HY.out.2.2).trans HY.out.2.1
        have HB27 : Hid (Below w2.heap.size w2 w7) := HB25.out.trans (HB57.out.mono HB25.out.size)
        have HBR7 : Hid (Below wr.heap.size wr w7) := HB5.out.trans (HB57.out.mono HB5.out.size)
        have hlen2 : R2.length = R3.length := by rw [← txR_len, HT3.out, txR_len]
        have hkb : k2.length ≤ 60 ∧ R2.length ≤ 150 ∧ ∀ r ∈ R2, r.l.length ≤ 1000000000 := by
          refine ⟨?_, ?_, fun r hr => ?_⟩
          · rw [HK2.out]; split
            · omega
            · exact Nat.zero_le _
          · rw [← txR_len, HT2.out]; split
            · have := putsG_len (o := ordR) (txR R); rw [txR_len] at this; omega
            · exact Nat.zero_le _
          · have hm : r.l ∈ txR R2 := List.mem_map.2 ⟨r, hr, rfl⟩
            rw [HT2.out] at hm
            split at hm
            · rw [putsG_mem ordR_is] at hm
              obtain ⟨q, hq, e⟩ := List.mem_map.1 hm
              have := HSM.out.2.2 q hq
              rw [← e]; omega
            · cases hm
        have HTO := told_any (.slice Aa k2.length ca) (.slice Ab R2.length cb) k2 R2 A3 A4 k3 k4 l3 R3 (ofC cols R) (ofC cols R) w7 wr.heap.size HBR7.out.size (HOC5.out.next HB57.out) (HAR5.out.next HB57.out) (Sl1.up HS3.out hb7 (Nat.le_refl _)) (HR3.out.up hb7 (Nat.le_refl _)) (by omega) (by rw [← HL3.out]; omega) (by omega) (by omega) hkb.2.2 HCR.out
        have hTT : ((ofC cols R == ofC cols R) && sameB k2 l3 (txR R2) (txR R3)) = true := by rw [HL3.out, HT3.out, sameB_yes, beq_self_eq_true]; rfl
        rw [hTT] at HTO
        have HTOL := Lib.hid HTO
        clear HTO hTT hkb hlen2
        go_wp2_with fail
        refine HTOL.out.mono ?_
        rintro e w8 ⟨rfl, hb8⟩
        have HB8 := Lib.hid hb8
        have HBR8 : Hid (Below wr.heap.size wr w8) := HBR7.out.trans hb8
        have HB28 : Hid (Below w2.heap.size w2 w8) := HB.out.trans (HBR8.out.mono HB.out.size)
        have x0 := (HB28.out.cell (p := ⟨w1.heap.size, 0, none⟩) HXX.out.2.2).trans HXX.out.1
        have x1 := (HB28.out.cell (p := ⟨w1.heap.size, 1, none⟩) HXX.out.2.2).trans HXX.out.2.1
        have HSA := sameL_any A1 A2 A A' c1 c2 c c' cols cols R1 R w8 (Sl1.up HS1.out HB28.out (Nat.le_refl _)) (Sl1.up HSC.out HB28.out (Nat.le_refl _)) (HS2.out.up HB28.out (Nat.le_refl _)) (HSR.out.up HB28.out (Nat.le_refl _)) (by omega) (by omega) (by rw [HLN.out]; omega) (by omega)
        rw [HT1.out, sameB_yes, HLN.out] at HSA
        have HSAM := Lib.hid HSA
        clear HSA hb8 hb7 hw7 y0 y1 z0 z1
        go_wp2_with fail
        refine HSAM.out.mono ?_
        rintro e w9 ⟨rfl, hb9⟩
        have HB9 := Lib.hid hb9
        clear hb9
        go_wp2
        go_ret
        exact ⟨rfl, (HB2.out.trans (HB28.out.mono HB2.out.size)).trans (HB9.out.mono (Nat.le_trans HB2.out.size HB28.out.size))⟩
end Go.Proofs.Ytafnhhbdcleihaa
