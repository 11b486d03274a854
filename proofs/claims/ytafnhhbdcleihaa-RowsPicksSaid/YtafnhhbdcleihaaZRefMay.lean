/-
  CONTRACTS: the document's May, Has.
-/
import Derived.Test.YtafnhhbdcleihaaZHas
namespace Go.Proofs.Ytafnhhbdcleihaa
open Go.RowKit

theorem mayRel_of {cols : List ByteArray} {R : List Rw} (h1 : colsB cols = true) (h2 : R.length ≤ 100000) (h3 : ∀ (i : Nat) (r : Rw), R[i]? = some r → r.l.length = cols.length) (h4 : ∀ (i : Nat) (x y : List Vl), (txR R)[i]? = some x → (txR R)[i + 1]? = some y → ordR x y < 0) : mayRel cols R = true := by
  unfold mayRel
  rw [h1, decide_eq_true h2, longB_yes fun i r hi hr => h3 i r hr, upsB_yes h4]; rfl
theorem mayRel_no1 {cols : List ByteArray} {R : List Rw} (h : colsB cols = false) : mayRel cols R = false := by unfold mayRel; rw [h]; rfl
theorem mayRel_no2 {cols : List ByteArray} {R : List Rw} (h : ¬ R.length ≤ 100000) : mayRel cols R = false := by unfold mayRel; rw [decide_eq_false h, Bool.and_false]; rfl
theorem mayRel_no3 {cols : List ByteArray} {R : List Rw} (h : longB cols.length R = false) : mayRel cols R = false := by unfold mayRel; rw [h, Bool.and_false]; rfl
theorem mayRel_no4 {cols : List ByteArray} {R : List Rw} (h : upsB (txR R) = false) : mayRel cols R = false := by unfold mayRel; rw [h, Bool.and_false]
set_option maxRecDepth 100000 in
set_option maxHeartbeats 4000000 in
theorem refMay_any (A : Option Addr) (c : Nat) (cols : List ByteArray) (A' : Option Addr) (c' : Nat) (R : List Rw) (w : World) (hc : SlC w w.heap.size A cols) (hR : SlR w w.heap.size A' R) (hl : cols.length ≤ 1000000000) (hl' : R.length ≤ 1000000000) :
    Calls Try.prog 25 #[.agg #[.slice A cols.length c, .slice A' R.length c']] w fun e w' => e = .returned (.bool (mayRel cols R)) ∧ Below w.heap.size w w' := by
  have HC := Lib.hid hc
  have HR := Lib.hid hR
  clear hc hR
  obtain ⟨w0, hw0⟩ : ∃ w0, w.alloc (.cells #[.slice A cols.length c, .slice A' R.length c'] 34) = w0 := ⟨_, rfl⟩
  have hb0 : Below w.heap.size w w0 := by rw [← hw0]; exact (Below.refl _ _).alloc (Nat.le_refl _) _
  have ya0 : w0.cell? ⟨w.heap.size, 0, none⟩ = some (.slice A cols.length c) := by rw [← hw0, World.cell?_alloc_new]; rfl
  have ya1 : w0.cell? ⟨w.heap.size, 1, none⟩ = some (.slice A' R.length c') := by rw [← hw0, World.cell?_alloc_new]; rfl
  have hlt : w.heap.size < w0.heap.size := by rw [← hw0]; simp
  have HX := Lib.hid (show w0.cell? ⟨w.heap.size, 0, none⟩ = some (.slice A cols.length c) ∧ w0.cell? ⟨w.heap.size, 1, none⟩ = some (.slice A' R.length c') ∧ w.heap.size < w0.heap.size from ⟨ya0, ya1, hlt⟩)
  have HB0 := Lib.hid hb0
  have HON := Lib.hid (once_any A c cols w0 w0.heap.size (HC.out.up hb0 (Nat.le_refl _)) (by omega))
  clear hlt hb0
  by_cases q1 : colsB cols = true
  · have HQ1 := Lib.hid q1
    rw [q1] at HON
    clear q1
    by_cases q2 : R.length ≤ 100000
    · have q2i : (R.length : Int) ≤ 100000 := by omega
      go_enter Try.func25, Try.ntmps25
      go_wp2_with fail
      refine HON.out.mono ?_
      rintro e w1 ⟨rfl, rfl⟩
      clear hw0
      go_wp2
      go_loopg [4] R.length (fun g x4 wr => ∃ j : Nat, x4 = .int .i64 j ∧ j + g = R.length ∧ Hid (∀ i (r : Rw), i < j → R[i]? = some r → r.l.length = cols.length) ∧ Hid (∀ (i : Nat) (x y : List Vl), i + 1 < j → (txR R)[i]? = some x → (txR R)[i + 1]? = some y → ordR x y < 0) ∧ Hid (Below w0.heap.size w0 wr))
      case atStart => exact ⟨0, rfl, by omega, fun i r h => absurd h (Nat.not_lt_zero _), fun i x y h => absurd h (Nat.not_lt_zero _), Below.refl _ _⟩
      case round =>
        clear ya0 ya1
        obtain ⟨j, rfl, hj, HJ, HU, HB⟩ := hrel
        have ya0 := (HB.out.cell (p := ⟨w.heap.size, 0, none⟩) HX.out.2.2).trans HX.out.1
        have ya1 := (HB.out.cell (p := ⟨w.heap.size, 1, none⟩) HX.out.2.2).trans HX.out.2.1
        have HLT : Hid (w.heap.size < wr.heap.size) := Nat.lt_of_lt_of_le HX.out.2.2 HB.out.size
        have HBW : Hid (Below w.heap.size w wr) := HB0.out.trans (HB.out.mono HB0.out.size)
        cases gk with
        | zero =>
          have hji : ¬ (j : Int) < (R.length : Int) := by omega
          have HE : Hid (mayRel cols R = true) := mayRel_of HQ1.out q2 (fun i r hr => HJ.out i r (by have := (List.getElem?_eq_some_iff.1 hr).1; omega) hr) (fun i x y h1 h2 => HU.out i x y (by have := (List.getElem?_eq_some_iff.1 h2).1; rw [txR_len] at this; omega) h1 h2)
          go_wp2
          go_ret
          exact ⟨ret_bool (by rw [HE.out]), HBW.out⟩
        | succ g =>
          have hji : (j : Int) < (R.length : Int) := by omega
          have hjn : j < R.length := by omega
          obtain ⟨b, o, r, rfl, hb, hr, hp, hok⟩ := (HR.out.up HBW.out (Nat.le_refl _)).at_ hjn
          have HRR := Lib.hid hr
          by_cases q3 : r.l.length = cols.length
          · have q3i : ((r.l.length : Int) != (cols.length : Int)) = false := by rw [q3]; simp
            have HE : Hid (∀ i (q : Rw), i < j + 1 → R[i]? = some q → q.l.length = cols.length) := fun i q hi hq => by
              by_cases e : i = j
              · subst e
                rw [HRR.out] at hq
                rw [← Option.some.inj hq]; exact q3
              · exact HJ.out i q (by omega) hq
            clear q3
            by_cases q4 : j = 0
            · have q4i : ((j : Int) == 0) = true := by rw [q4]; rfl
              have HQ4 := Lib.hid q4
              clear hr hok q4
              go_wp2
              go_quiet (fail)
              go_wp2
              obtain ⟨wq, hwq⟩ : ∃ wq, wr.drewN nq = wq := ⟨_, rfl⟩
              have HBQ : Hid (Below w0.heap.size w0 wq) := by show Below _ _ _; rw [← hwq]; exact HB.out.trans (below_drewN _ _)
              rw [hwq]
              go_roundg g
              case measure => omega
              case rel => exact ⟨j + 1, by go_num, by omega, HE.out, fun i x y h => absurd h (by have := HQ4.out; omega), HBQ.out⟩
            · have q4i : ((j : Int) == 0) = false := by rw [beq_eq_false_iff_ne]; omega
              have hw1 : IntKind.i64.wrap ((j : Int) - 1) = ((j - 1 : Nat) : Int) := by
                rw [show ((j - 1 : Nat) : Int) = (j : Int) - 1 from by omega]; exact IntWalk.i64_in _ (by omega)
              have hj0 : j - 1 < R.length := by omega
              obtain ⟨e1', o1', r3, hA1', _, hr3, p3, hok3⟩ := (HR.out.up HBW.out (Nat.le_refl _)).at_ hj0
              injection hA1' with hA1'
              injection hA1' with hx1 hx2
              subst hx1 hx2
              have HCA := Lib.hid (fun W (hb : Below wr.heap.size wr W) => refCmpR_any r3 r W (hok3.up hb (Nat.le_refl _)) (hok.up hb (Nat.le_refl _)))
              have HR3 := Lib.hid (txR_at hr3)
              have HR4 := Lib.hid (txR_at hr)
              have HP := Lib.hid (show (wr.cell? ⟨b, o + (j - 1), none⟩ = _ ∧ wr.cell? ⟨b, o + j, none⟩ = _ ∧ b < wr.heap.size) ∧ wr.cell? ⟨w.heap.size, 1, none⟩ = _ from ⟨⟨p3, hp, hb⟩, ya1⟩)
              obtain ⟨A3, c3, l3⟩ := r3
              obtain ⟨A4, c4, l4⟩ := r
              unfold cellR at HCA
              obtain ⟨q, hq⟩ : ∃ q, ordR l3 l4 = q := ⟨_, rfl⟩
              have HQ := Lib.hid hq
              rw [hq] at HCA
              simp only at q3i
              clear hr hok hr3 hok3 hq
              go_wp2
              go_quiet (fail)
              obtain ⟨wq, hwq⟩ : ∃ wq, wr.drewN nq = wq := ⟨_, rfl⟩
              have HBQ : Hid (Below wr.heap.size wr wq) := by show Below _ _ _; rw [← hwq]; exact below_drewN _ _
              rw [hwq]
              clear hwq p3 hp ya0 ya1
              go_wp2_with fail
              obtain ⟨wd, hwd⟩ : ∃ wd, wq.drew = wd := ⟨_, rfl⟩
              have HSN : Hid (Snc wr wd) := by show Snc _ _; rw [← hwd]; exact HBQ.out.trans (Below.refl _ _).drew
              refine wp_region_held_drew (S := Snc wr) (by kernel_rfl) (by rw [hwd]; exact HSN.out) (fun hHeld => ?_)
              rw [hwd] at hHeld ⊢
              clear hwd
              refine takeV 0 (some 36) ((.pointer (some ⟨w.heap.size, 1, none⟩))) rfl rfl (by kernel_rfl) (by kernel_rfl) (by kernel_rfl) (fun _ _ _ h => h) (by rfl) (by (intro _w _hSw; (try dsimp only at _hSw); go_simp)) (by assumption) ?_
              simp only [Act.put, List.setIfInBounds_toArray, List.set_cons_zero, List.set_cons_succ]
              refine takeV 1 (some 37) ((.slice (some ⟨b, o, none⟩) R.length c')) rfl rfl (by kernel_rfl) (by kernel_rfl) (by kernel_rfl) (fun _ _ _ h => h) (by rfl) (by (intro _w hSw; have k0 := (Below.cell (p := ⟨w.heap.size, 1, none⟩) hSw HLT.out).trans HP.out.2; clear hSw; go_simp)) (by assumption) ?_
              simp only [Act.put, List.setIfInBounds_toArray, List.set_cons_zero, List.set_cons_succ]
              refine takeV 2 (some 38) ((.int .i64 j)) rfl rfl (by kernel_rfl) (by kernel_rfl) (by kernel_rfl) (fun _ _ _ h => h) (by rfl) (by (intro _w _hSw; (try dsimp only at _hSw); go_simp)) (by assumption) ?_
              simp only [Act.put, List.setIfInBounds_toArray, List.set_cons_zero, List.set_cons_succ]
              refine takeV 3 (some 39) ((.int .i64 ((j - 1 : Nat) : Int))) rfl rfl (by kernel_rfl) (by kernel_rfl) (by kernel_rfl) (fun _ _ _ h => h) (by rfl) (by (intro _w _hSw; (try dsimp only at _hSw); go_simp)) (by assumption) ?_
              simp only [Act.put, List.setIfInBounds_toArray, List.set_cons_zero, List.set_cons_succ]
              refine takeV 4 (some 40) ((.pointer (some ⟨b, o + (j - 1), none⟩))) rfl rfl (by kernel_rfl) (by kernel_rfl) (by kernel_rfl) (fun _ _ _ h => h) (by rfl) (by (intro _w _hSw; (try dsimp only at _hSw); go_simp)) (by assumption) ?_
              simp only [Act.put, List.setIfInBounds_toArray, List.set_cons_zero, List.set_cons_succ]
              refine takeV 5 (some 41) ((.slice A3 l3.length c3)) rfl rfl (by kernel_rfl) (by kernel_rfl) (by kernel_rfl) (fun _ _ _ h => h) (by rfl) (by (intro _w hSw; have k0 := (Below.cell (p := ⟨b, o + (j - 1), none⟩) hSw HP.out.1.2.2).trans HP.out.1.1; clear hSw; go_simp)) (by assumption) ?_
              simp only [Act.put, List.setIfInBounds_toArray, List.set_cons_zero, List.set_cons_succ]
              refine takeV 6 (some 42) ((.pointer (some ⟨w.heap.size, 1, none⟩))) rfl rfl (by kernel_rfl) (by kernel_rfl) (by kernel_rfl) (fun _ _ _ h => h) (by rfl) (by (intro _w _hSw; (try dsimp only at _hSw); go_simp)) (by assumption) ?_
              simp only [Act.put, List.setIfInBounds_toArray, List.set_cons_zero, List.set_cons_succ]
              refine takeV 7 (some 43) ((.slice (some ⟨b, o, none⟩) R.length c')) rfl rfl (by kernel_rfl) (by kernel_rfl) (by kernel_rfl) (fun _ _ _ h => h) (by rfl) (by (intro _w hSw; have k0 := (Below.cell (p := ⟨w.heap.size, 1, none⟩) hSw HLT.out).trans HP.out.2; clear hSw; go_simp)) (by assumption) ?_
              simp only [Act.put, List.setIfInBounds_toArray, List.set_cons_zero, List.set_cons_succ]
              refine takeV 8 (some 44) ((.int .i64 j)) rfl rfl (by kernel_rfl) (by kernel_rfl) (by kernel_rfl) (fun _ _ _ h => h) (by rfl) (by (intro _w _hSw; (try dsimp only at _hSw); go_simp)) (by assumption) ?_
              simp only [Act.put, List.setIfInBounds_toArray, List.set_cons_zero, List.set_cons_succ]
              refine takeV 9 (some 45) ((.pointer (some ⟨b, o + j, none⟩))) rfl rfl (by kernel_rfl) (by kernel_rfl) (by kernel_rfl) (fun _ _ _ h => h) (by rfl) (by (intro _w _hSw; (try dsimp only at _hSw); go_simp)) (by assumption) ?_
              simp only [Act.put, List.setIfInBounds_toArray, List.set_cons_zero, List.set_cons_succ]
              refine takeV 10 (some 46) ((.slice A4 l4.length c4)) rfl rfl (by kernel_rfl) (by kernel_rfl) (by kernel_rfl) (fun _ _ _ h => h) (by rfl) (by (intro _w hSw; have k0 := (Below.cell (p := ⟨b, o + j, none⟩) hSw HP.out.1.2.2).trans HP.out.1.2.1; clear hSw; go_simp)) (by assumption) ?_
              simp only [Act.put, List.setIfInBounds_toArray, List.set_cons_zero, List.set_cons_succ]
              refine callV 11 rfl (by kernel_rfl) (by rfl) (fun K hK => ?_)
              go_simp
              refine (HCA.out _ hHeld).mono ?_
              rintro e w3 ⟨rfl, hb3⟩
              have HB3 : Hid (Below wr.heap.size wr w3) := hHeld.next hb3
              refine hK.out _ _ (hHeld.next hb3) (fun _ => ?_)
              clear hK K hHeld hb3
              try simp only [Act.put, List.setIfInBounds_toArray, List.set_cons_zero, List.set_cons_succ]
              refine takeV 12 (some 5) ((.int .i64 q)) rfl rfl (by kernel_rfl) (by kernel_rfl) (by kernel_rfl) (fun _ _ _ h => h) (by rfl) (by (intro _w _hSw; (try dsimp only at _hSw); go_simp)) (by assumption) ?_
              simp only [Act.put, List.setIfInBounds_toArray, List.set_cons_zero, List.set_cons_succ]
              refine wpAnyH_done (by kernel_rfl) ?_ _
              by_cases hq0 : 0 ≤ q
              · have HE : Hid (mayRel cols R = false) := mayRel_no4 (upsB_no HR3.out (by rw [show j - 1 + 1 = j from by omega]; exact HR4.out) (by rw [HQ.out]; omega))
                go_wp2
                go_ret
                exact ⟨ret_bool (by rw [HE.out]), HBW.out.trans (HB3.out.mono HBW.out.size)⟩
              · have HE2 : Hid (∀ (i : Nat) (x y : List Vl), i + 1 < j + 1 → (txR R)[i]? = some x → (txR R)[i + 1]? = some y → ordR x y < 0) := fun i x y h1 h2 h3 => by
                  by_cases e : i = j - 1
                  · subst e
                    rw [show j - 1 + 1 = j from by omega, HR4.out] at h3
                    rw [HR3.out] at h2
                    rw [← Option.some.inj h2, ← Option.some.inj h3, HQ.out]; omega
                  · exact HU.out i x y (by omega) h2 h3
                go_wp2
                go_roundg g
                case measure => omega
                case rel => exact ⟨j + 1, by go_num, by omega, HE.out, HE2.out, HB.out.trans (HB3.out.mono HB.out.size)⟩
          · have q3i : ((r.l.length : Int) != (cols.length : Int)) = true := by rw [bne_iff_ne]; omega
            have HE : Hid (mayRel cols R = false) := mayRel_no3 (longB_no hr q3)
            clear hr hok q3
            go_wp2
            go_quiet (fail)
            go_wp2
            obtain ⟨wq, hwq⟩ : ∃ wq, wr.drewN nq = wq := ⟨_, rfl⟩
            have HBQ : Hid (Below wr.heap.size wr wq) := by show Below _ _ _; rw [← hwq]; exact below_drewN _ _
            rw [hwq]
            go_ret
            exact ⟨ret_bool (by rw [HE.out]), HBW.out.trans (HBQ.out.mono HBW.out.size)⟩
    · have q2i : ¬ (R.length : Int) ≤ 100000 := by omega
      have HE : Hid (mayRel cols R = false) := mayRel_no2 q2
      go_enter Try.func25, Try.ntmps25
      go_wp2_with fail
      refine HON.out.mono ?_
      rintro e w1 ⟨rfl, rfl⟩
      go_wp2
      go_ret
      exact ⟨ret_bool (by rw [HE.out]), HB0.out⟩
  · rw [Bool.not_eq_true] at q1
    have HE : Hid (mayRel cols R = false) := mayRel_no1 q1
    rw [q1] at HON
    clear q1
    go_enter Try.func25, Try.ntmps25
    go_wp2_with fail
    refine HON.out.mono ?_
    rintro e w1 ⟨rfl, rfl⟩
    go_wp2
    go_ret
    exact ⟨ret_bool (by rw [HE.out]), HB0.out⟩
end Go.Proofs.Ytafnhhbdcleihaa
