/-
  CONTRACT: made (the attribute that an entity's facts make of it, if they make one).
-/
import Derived.Deep.CutRange
import Derived.Test.YtlmihlepaoifiaaJAValR
import Derived.Test.YtlmihlepaoifiaaJFMay
namespace Go.Proofs.Ytlmihlepaoifiaa
open Go.RowKit Go.Shelf

set_option maxRecDepth 100000 in
set_option maxHeartbeats 16000000 in
theorem made_any (A : Option Addr) (c : Nat) (fs : List FactP) (w : World) (hs : FVa w (.slice A fs.length c) fs) (f0 : FactP) (hf9 : fs[0]? = some f0) (hl : fs.length ≤ 1954687338268) :
    Calls Try.prog 46 #[.slice A fs.length c] w fun e w' => e = .returned (fndV (madeL (foldM f0.e fs))) ∧ Below w.heap.size w w' := by
  have h0 : 0 < fs.length := (List.getElem?_eq_some_iff.1 hf9).1
  have hf0 : fs[0] = f0 := (List.getElem?_eq_some_iff.1 hf9).2
  obtain ⟨b, o, sv0, rfl, hlt, hc, _⟩ := fva_at hs h0
  rw [hf0] at hc
  have z0 := hc.1
  simp only [Nat.zero_mul, Nat.add_zero] at z0
  have hi0 : (0 : Int) < (fs.length : Int) := by omega
  obtain ⟨w9, hw9⟩ : ∃ w9, w.alloc (.cells #[.int .i64 0, .string ⟨#[]⟩, .int .i64 0, .bool false, .int .i64 0, .bool false, .bool false] 39) = w9 := ⟨_, rfl⟩
  have hz9 : w9.heap.size = w.heap.size + 1 := by rw [← hw9]; simp
  have hb9 : Below w.heap.size w w9 := by rw [← hw9]; exact (Below.refl _ _).alloc (Nat.le_refl _) _
  have z9 : w9.cell? ⟨b, o, none⟩ = some (.int .i64 f0.e) := (hb9.cell (p := ⟨b, o, none⟩) hlt).trans z0
  have hlt9 : b < w9.heap.size := by omega
  obtain ⟨w0, hw0⟩ : ∃ w0, w9.alloc (.cells #[.int .i64 f0.e, .string ⟨#[]⟩, .int .i64 0, .bool false, .int .i64 0, .bool false, .bool false] 39) = w0 := ⟨_, rfl⟩
  have hb0 : Below w.heap.size w w0 := by rw [← hw0]; exact hb9.alloc (by omega) _
  have HX0 : Hid (BxA w0 (w.heap.size + 1) (iniM f0.e).at') := by rw [← hw0, ← hz9]; exact heap_alloc_new w9 _
  have HR0 : Hid (BxA w0 w.heap.size zA) := by rw [← hw0]; exact (Below.heap_alloc _ _ _ (by omega)).trans (by rw [← hw9]; exact heap_alloc_new w _)
  have hz0 : w0.heap.size = w.heap.size + 2 := by rw [← hw0]; simp; omega
  have HS := Lib.hid hs
  have HB0 := Lib.hid hb0
  have HZ0 := Lib.hid hz0
  clear hs hc hf0 hf9 hb0 hz0
  go_enter Try.func46, Try.ntmps46
  go_upto_region 1 with (fail)
  try rw [hw9]
  clear hw9 z0 hb9
  have HW0 := Lib.hid hw0
  clear hw0
  go_upto_region 2 with (fail)
  rw [HW0.out]
  try rw [hz9]
  clear HW0 z9 hlt9
  go_wp2
  go_loopg [5, 6, 16] fs.length (fun g x y z wr => ∃ (j : Nat) (q : MdS), x = .int .i64 q.nn ∧ y = .int .i64 q.tn ∧ z = .int .i64 j ∧ j + g = fs.length ∧ Hid (q = foldM f0.e (fs.take j)) ∧ Hid (q.nn ≤ j ∧ q.tn ≤ j) ∧ Hid (BxA wr (w.heap.size + 1) q.at') ∧ Hid (Below (w.heap.size + 1) w0 wr))
  case atStart => exact ⟨0, iniM f0.e, rfl, rfl, rfl, by omega, rfl, ⟨Nat.le_refl _, Nat.le_refl _⟩, HX0.out, Below.refl _ _⟩
  case round =>
    obtain ⟨j, q, rfl, rfl, rfl, hj, HQ, HN, HX, HB⟩ := hrel
    have hsz := HB.out.size
    have HZ : Hid (w.heap.size + 2 ≤ wr.heap.size) := by have := HZ0.out; show _ ≤ _; omega
    clear hsz
    have HBW : Hid (Below w.heap.size w wr) := HB0.out.trans (HB.out.mono (by omega))
    cases gk with
    | zero =>
      have hji : ¬ (j : Int) < (fs.length : Int) := by omega
      have HFQ : Hid (foldM f0.e fs = q) := by show _ = _; rw [HQ.out, List.take_of_length_le (by omega)]
      have HRB : Hid (BxA wr w.heap.size zA) := HR0.out.next HB.out (by omega)
      clear hj
      have x0 : wr.cell? ⟨w.heap.size + 1, 0, none⟩ = some (.int .i64 q.at'.id) := HX.out.cell 0
      have x1 : wr.cell? ⟨w.heap.size + 1, 1, none⟩ = some (.string q.at'.nm) := HX.out.cell 1
      have x2 : wr.cell? ⟨w.heap.size + 1, 2, none⟩ = some (.int .i64 q.at'.ty) := HX.out.cell 2
      go_upto_region 23 with (fail)
      go_cut [102] from 82 to 102 (fun c wx => c = .bool (!okM q) ∧ wx = wr)
      case first =>
        by_cases e0 : q.at'.id < 10
        · have d0 : decide (q.at'.id < 10) = true := decide_eq_true e0
          have HOK : Hid (okM q = false) := by show _ = _; simp [okM, e0]
          clear e0
          go_wp2
          go_meet
          exact ⟨by rw [HOK.out]; rfl, rfl⟩
        · have d0 : decide (q.at'.id < 10) = false := decide_eq_false e0
          by_cases e1 : q.nn ≠ 1
          · have d1 : ((q.nn : Int) != 1) = true := bne_iff_ne.2 (by omega)
            have HOK : Hid (okM q = false) := by show _ = _; simp [okM, e0, e1]
            clear e0 e1
            go_wp2
            go_meet
            exact ⟨by rw [HOK.out]; rfl, rfl⟩
          · have d1 : ((q.nn : Int) != 1) = false := by simpa using (show (q.nn : Int) = 1 by omega)
            by_cases e2 : q.tn ≠ 1
            · have d2 : ((q.tn : Int) != 1) = true := bne_iff_ne.2 (by omega)
              have HOK : Hid (okM q = false) := by show _ = _; simp [okM, e0, e1, e2]
              clear e0 e1 e2
              go_wp2
              go_meet
              exact ⟨by rw [HOK.out]; rfl, rfl⟩
            · have d2 : ((q.tn : Int) != 1) = false := by simpa using (show (q.tn : Int) = 1 by omega)
              by_cases e3 : q.at'.nm = ⟨#[]⟩
              · have d3 : q.at'.nm.toList = [] := by rw [e3, ByteArray.toList_eq]
                have HOK : Hid (okM q = false) := by show _ = _; simp [okM, e0, e1, e2, e3]
                clear e0 e1 e2 e3
                go_wp2
                go_meet
                exact ⟨by rw [HOK.out]; rfl, rfl⟩
              · have d3 : ¬ q.at'.nm.toList = [] := by
                  rw [ByteArray.toList_eq]
                  exact fun h => e3 (ByteArray.ext (Array.toList_inj.1 h))
                by_cases e4 : q.at'.ty = 0
                · have d4 : (q.at'.ty == 0) = true := by rw [e4, beq_self_eq_true]
                  have HOK : Hid (okM q = false) := by show _ = _; simp [okM, e0, e1, e2, e3, e4]
                  clear e0 e1 e2 e3 e4
                  go_wp2
                  go_meet
                  exact ⟨by rw [HOK.out]; rfl, rfl⟩
                · have d4 : (q.at'.ty == 0) = false := beq_eq_false_iff_ne.2 e4
                  have HOK : Hid (okM q = true) := by show _ = _; simp [okM, e0, e1, e2, e3, e4]
                  clear e0 e1 e2 e3 e4
                  have d5 : q.at'.nm.toList.isEmpty = false := by cases h : q.at'.nm.toList with | nil => exact absurd h d3 | cons => rfl
                  go_wp2
                  go_meet
                  exact ⟨by rw [HOK.out]; first | rfl | (rw [d5]; rfl), rfl⟩
      case rest =>
        obtain ⟨rfl, hwc⟩ := hcut
        have hwc := hwc.symm
        subst hwc
        obtain ⟨v, hv⟩ : ∃ v, okM q = v := ⟨_, rfl⟩
        have HOK := Lib.hid hv
        rw [hv]
        clear hv x0 x1 x2
        have r0 : wr.cell? ⟨w.heap.size, 0, none⟩ = some (.int .i64 0) := HRB.out.cell 0
        have r1 : wr.cell? ⟨w.heap.size, 1, none⟩ = some (.string ⟨#[]⟩) := HRB.out.cell 1
        have r2 : wr.cell? ⟨w.heap.size, 2, none⟩ = some (.int .i64 0) := HRB.out.cell 2
        have r3 : wr.cell? ⟨w.heap.size, 3, none⟩ = some (.bool false) := HRB.out.cell 3
        have r4 : wr.cell? ⟨w.heap.size, 4, none⟩ = some (.int .i64 0) := HRB.out.cell 4
        have r5 : wr.cell? ⟨w.heap.size, 5, none⟩ = some (.bool false) := HRB.out.cell 5
        have r6 : wr.cell? ⟨w.heap.size, 6, none⟩ = some (.bool false) := HRB.out.cell 6
        have rf0 : wr.frozen? ⟨w.heap.size, 0, none⟩ = false := HRB.out.fz 0
        have rf1 : wr.frozen? ⟨w.heap.size, 1, none⟩ = false := HRB.out.fz 1
        have rf2 : wr.frozen? ⟨w.heap.size, 2, none⟩ = false := HRB.out.fz 2
        have rf3 : wr.frozen? ⟨w.heap.size, 3, none⟩ = false := HRB.out.fz 3
        have rf4 : wr.frozen? ⟨w.heap.size, 4, none⟩ = false := HRB.out.fz 4
        have rf5 : wr.frozen? ⟨w.heap.size, 5, none⟩ = false := HRB.out.fz 5
        have rf6 : wr.frozen? ⟨w.heap.size, 6, none⟩ = false := HRB.out.fz 6
        cases v
        · go_wp2
          have HY := Lib.hid (HRB.out.set7 zA)
          have HBQ := Lib.hid (HBW.out.trans (below_set7 (W := wr) (B := w.heap.size) (b := w.heap.size) (Nat.le_refl _) (.int .i64 zA.id) (.string zA.nm) (.int .i64 zA.ty) (.bool zA.many) (.int .i64 zA.un) (.bool zA.part) (.bool zA.ix)))
          have c0 := HY.out.cell 0
          have c1 := HY.out.cell 1
          have c2 := HY.out.cell 2
          have c3 := HY.out.cell 3
          have c4 := HY.out.cell 4
          have c5 := HY.out.cell 5
          have c6 := HY.out.cell 6
          simp only [zA] at c0 c1 c2 c3 c4 c5 c6
          clear r0 rf0 r1 rf1 r2 rf2 r3 rf3 r4 rf4 r5 rf5 r6 rf6
          refine bodyPost_ret (v := .tuple #[.agg #[.int .i64 0, .string ⟨#[]⟩, .int .i64 0, .bool false, .int .i64 0, .bool false, .bool false], .bool false]) ?_ rfl ⟨by rw [HFQ.out]; unfold madeL; rw [HOK.out]; rfl, HBQ.out⟩
          rw [results_cell_tmp rfl]
          go_simp
        · have x0 : wr.cell? ⟨w.heap.size + 1, 0, none⟩ = some (.int .i64 q.at'.id) := HX.out.cell 0
          have x1 : wr.cell? ⟨w.heap.size + 1, 1, none⟩ = some (.string q.at'.nm) := HX.out.cell 1
          have x2 : wr.cell? ⟨w.heap.size + 1, 2, none⟩ = some (.int .i64 q.at'.ty) := HX.out.cell 2
          have x3 : wr.cell? ⟨w.heap.size + 1, 3, none⟩ = some (.bool q.at'.many) := HX.out.cell 3
          have x4 : wr.cell? ⟨w.heap.size + 1, 4, none⟩ = some (.int .i64 q.at'.un) := HX.out.cell 4
          have x5 : wr.cell? ⟨w.heap.size + 1, 5, none⟩ = some (.bool q.at'.part) := HX.out.cell 5
          have x6 : wr.cell? ⟨w.heap.size + 1, 6, none⟩ = some (.bool q.at'.ix) := HX.out.cell 6
          go_wp2
          have HY := Lib.hid (HRB.out.set7 q.at')
          have HBQ := Lib.hid (HBW.out.trans (below_set7 (W := wr) (B := w.heap.size) (b := w.heap.size) (Nat.le_refl _) (.int .i64 q.at'.id) (.string q.at'.nm) (.int .i64 q.at'.ty) (.bool q.at'.many) (.int .i64 q.at'.un) (.bool q.at'.part) (.bool q.at'.ix)))
          have c0 := HY.out.cell 0
          have c1 := HY.out.cell 1
          have c2 := HY.out.cell 2
          have c3 := HY.out.cell 3
          have c4 := HY.out.cell 4
          have c5 := HY.out.cell 5
          have c6 := HY.out.cell 6
          clear r0 rf0 r1 rf1 r2 rf2 r3 rf3 r4 rf4 r5 rf5 r6 rf6
          refine bodyPost_ret (v := .tuple #[.agg #[.int .i64 q.at'.id, .string q.at'.nm, .int .i64 q.at'.ty, .bool q.at'.many, .int .i64 q.at'.un, .bool q.at'.part, .bool q.at'.ix], .bool true]) ?_ rfl ⟨by rw [HFQ.out]; unfold madeL; rw [HOK.out]; rfl, HBQ.out⟩
          rw [results_cell_tmp rfl]
          go_simp
    | succ g =>
      have hji : (j : Int) < (fs.length : Int) := by omega
      have hjn : j < fs.length := by omega
      have hfv := HS.out.next HBW.out
      obtain ⟨b2, o2, sv, hA, hlt2, hc, hsv⟩ := fva_at hfv hjn
      obtain ⟨As, cs, rfl, _⟩ := hsv
      injection hA with hA
      injection hA with e1 e2
      subst e1
      subst e2
      obtain ⟨f, hf⟩ : ∃ f, fs[j] = f := ⟨_, rfl⟩
      obtain ⟨ln, hln⟩ : ∃ ln, fs[j].l.length = ln := ⟨_, rfl⟩
      rw [hln] at hc
      clear hln
      rw [hf] at hc
      have hfg : fs[j]? = some f := by rw [List.getElem?_eq_getElem hjn, hf]
      have hst := foldM_at f0.e fs hfg
      rw [← HQ.out] at hst
      have HST := Lib.hid hst
      have y0 := hc.1
      have y1 := hc.2.1
      have y2 := hc.2.2.1
      have y3 := hc.2.2.2.1
      have y4 := hc.2.2.2.2.1
      have y5 := hc.2.2.2.2.2
      have HNQ := HN.out
      have HBN : Hid (Below (w.heap.size + 1) w0 (wr.alloc (.cells #[.int .i64 f.e, .int .i64 f.a, .int .i64 f.k, .int .i64 f.m, .string f.s, .slice As ln cs] 30))) := HB.out.alloc (by have := HZ.out; omega) _
      have hx1 : BxA (wr.alloc (.cells #[.int .i64 f.e, .int .i64 f.a, .int .i64 f.k, .int .i64 f.m, .string f.s, .slice As ln cs] 30)) (w.heap.size + 1) q.at' := HX.out.next ((Below.refl wr.heap.size wr).alloc (Nat.le_refl _) _) (by have := HZ.out; omega)
      have HX1 := Lib.hid hx1
      have hne : (w.heap.size + 1 == wr.heap.size) = false := beq_eq_false_iff_ne.2 (by have := HZ.out; omega)
      have hne2 : ¬ w.heap.size + 1 = wr.heap.size := by have := HZ.out; omega
      clear hfv hf hc hfg hst
      have hn1 : (q.nn : Int) ≤ 1954687338268 := by have := HNQ; omega
      have hn2 : (q.tn : Int) ≤ 1954687338268 := by have := HNQ; omega
      have HNH := Lib.hid HNQ
      clear hx1 HNQ
      by_cases a1 : f.a = 1
      · have k1 : (f.a == 1) = true := by rw [a1, beq_self_eq_true]
        have x1 := HX1.out.cell 1
        have xf1 := HX1.out.fz 1
        by_cases e7 : f.k = 7
        · have k7 : (f.k == 7) = true := by rw [e7, beq_self_eq_true]
          have HSQ : Hid (⟨{ q.at' with nm := f.s }, q.nn + 1, q.tn⟩ = foldM f0.e (fs.take (j + 1))) := by show _ = _; rw [HST.out]; simp [stepM, a1, e7]
          have HX2 := Lib.hid (HX1.out.st1 f.s)
          have HB2 := Lib.hid (HBN.out.trans (below_st (W := (wr.alloc (.cells #[.int .i64 f.e, .int .i64 f.a, .int .i64 f.k, .int .i64 f.m, .string f.s, .slice As ln cs] 30))) (Nat.le_refl (w.heap.size + 1)) 1 (.string f.s)))
          clear a1 e7
          go_wp2
          go_roundg g
          case measure => omega
          case rel => exact ⟨j + 1, ⟨{ q.at' with nm := f.s }, q.nn + 1, q.tn⟩, by go_num, by go_num, by go_num, by omega, HSQ.out, by have := HNH.out; exact ⟨by first | omega | (simp only []; omega), by first | omega | (simp only []; omega)⟩, HX2.out, HB2.out⟩
        · have k7 : (f.k == 7) = false := beq_eq_false_iff_ne.2 e7
          have HSQ : Hid (⟨q.at', q.nn + 1, q.tn⟩ = foldM f0.e (fs.take (j + 1))) := by show _ = _; rw [HST.out]; simp [stepM, a1, e7]
          clear a1 e7
          go_wp2
          go_roundg g
          case measure => omega
          case rel => exact ⟨j + 1, ⟨q.at', q.nn + 1, q.tn⟩, by go_num, by go_num, by go_num, by omega, HSQ.out, by have := HNH.out; exact ⟨by first | omega | (simp only []; omega), by first | omega | (simp only []; omega)⟩, HX1.out, HBN.out⟩
      · have k1 : (f.a == 1) = false := beq_eq_false_iff_ne.2 a1
        by_cases a2 : f.a = 2
        · have k2 : (f.a == 2) = true := by rw [a2, beq_self_eq_true]
          have HSQ : Hid (⟨{ q.at' with ty := numA f.k f.m 7 }, q.nn, q.tn + 1⟩ = foldM f0.e (fs.take (j + 1))) := by show _ = _; rw [HST.out]; simp [stepM, a2]
          clear a1 a2
          go_wp2_with fail
          refine (numberOf_any f.k f.m 7 f.s _).mono ?_
          rintro e w3 ⟨rfl, hb3⟩
          have HX3 : Hid (BxA w3 (w.heap.size + 1) q.at') := HX1.out.next hb3 (by have := HZ.out; simp; omega)
          have HB3 : Hid (Below (w.heap.size + 1) w0 w3) := HBN.out.trans (hb3.mono (by have := HZ.out; simp; omega))
          clear hb3
          have x2 := HX3.out.cell 2
          have xf2 := HX3.out.fz 2
          have HX4 := Lib.hid (HX3.out.st2 (numA f.k f.m 7))
          have HB4 := Lib.hid (HB3.out.trans (below_st (W := w3) (Nat.le_refl (w.heap.size + 1)) 2 (.int .i64 (numA f.k f.m 7))))
          go_wp2
          go_roundg g
          case measure => omega
          case rel => exact ⟨j + 1, ⟨{ q.at' with ty := numA f.k f.m 7 }, q.nn, q.tn + 1⟩, by go_num, by go_num, by go_num, by omega, HSQ.out, by have := HNH.out; exact ⟨by first | omega | (simp only []; omega), by first | omega | (simp only []; omega)⟩, HX4.out, HB4.out⟩
        · have k2 : (f.a == 2) = false := beq_eq_false_iff_ne.2 a2
          by_cases a3 : f.a = 3
          · have k3 : (f.a == 3) = true := by rw [a3, beq_self_eq_true]
            have x3 := HX1.out.cell 3
            have xf3 := HX1.out.fz 3
            obtain ⟨u, hu⟩ : ∃ u, q.at'.many = u := ⟨_, rfl⟩
            have HSQ : Hid ({ q with at' := { q.at' with many := u || trueA f.k f.m } } = foldM f0.e (fs.take (j + 1))) := by show _ = _; rw [HST.out, ← hu]; simp [stepM, a3]
            clear a1 a2 a3
            rw [hu] at x3
            cases u
            · go_wp2_with fail
              refine (isTrue_any f.k f.m f.s _).mono ?_
              rintro e w3 ⟨rfl, hb3⟩
              have HX3 : Hid (BxA w3 (w.heap.size + 1) q.at') := HX1.out.next hb3 (by have := HZ.out; simp; omega)
              have HB3 : Hid (Below (w.heap.size + 1) w0 w3) := HBN.out.trans (hb3.mono (by have := HZ.out; simp; omega))
              clear hb3 x3 xf3
              have x3 := HX3.out.cell 3
              have xf3 := HX3.out.fz 3
              have HX4 := Lib.hid (HX3.out.st3 (false || trueA f.k f.m))
              have HB4 := Lib.hid (HB3.out.trans (below_st (W := w3) (Nat.le_refl (w.heap.size + 1)) 3 (.bool (false || trueA f.k f.m))))
              simp only [Bool.false_or] at HX4 HB4 HSQ
              go_wp2
              go_roundg g
              case measure => omega
              case rel => exact ⟨j + 1, { q with at' := { q.at' with many := trueA f.k f.m } }, by go_num, by go_num, by go_num, by omega, HSQ.out, by have := HNH.out; exact ⟨by first | omega | (simp only []; omega), by first | omega | (simp only []; omega)⟩, HX4.out, HB4.out⟩
            · have HX4 := Lib.hid (HX1.out.st3 true)
              have HB4 := Lib.hid (HBN.out.trans (below_st (W := (wr.alloc (.cells #[.int .i64 f.e, .int .i64 f.a, .int .i64 f.k, .int .i64 f.m, .string f.s, .slice As ln cs] 30))) (Nat.le_refl (w.heap.size + 1)) 3 (.bool true)))
              simp only [Bool.true_or] at HSQ
              go_wp2
              go_roundg g
              case measure => omega
              case rel => exact ⟨j + 1, { q with at' := { q.at' with many := true } }, by go_num, by go_num, by go_num, by omega, HSQ.out, by have := HNH.out; exact ⟨by first | omega | (simp only []; omega), by first | omega | (simp only []; omega)⟩, HX4.out, HB4.out⟩
          · have k3 : (f.a == 3) = false := beq_eq_false_iff_ne.2 a3
            by_cases a4 : f.a = 4
            · have k4 : (f.a == 4) = true := by rw [a4, beq_self_eq_true]
              have x4 := HX1.out.cell 4
              have xf4 := HX1.out.fz 4
              have HSQ : Hid ({ q with at' := { q.at' with un := max q.at'.un (numA f.k f.m 2) } } = foldM f0.e (fs.take (j + 1))) := by show _ = _; rw [HST.out]; simp [stepM, a4]
              clear a1 a2 a3 a4
              go_upto_region 17 with (fail)
              go_region_with (go_at_call 57; refine (numberOf_any f.k f.m 2 f.s _).mono ?_; rintro e w3 ⟨rfl, hb3⟩; have HX3 : Hid (BxA w3 (w.heap.size + 1) q.at') := (hb3.block (w.heap.size + 1) (by have := HZ.out; simp; omega)).trans HX1.out; have HB3 : Hid (Below (w.heap.size + 1) w0 w3) := (by first | exact HBN.out.trans (hb3.mono (by have := HZ.out; simp; omega)) | exact HBN.out.drew.trans (hb3.mono (by have := HZ.out; simp; omega))); have y4 := HX3.out.cell 4; have yf4 := HX3.out.fz 4; clear hb3)
              all_goals (have HX4 := Lib.hid (HX3.out.st4 (max q.at'.un (numA f.k f.m 2))); have HB4 := Lib.hid (HB3.out.trans (below_st (W := w3) (Nat.le_refl (w.heap.size + 1)) 4 (.int .i64 (max q.at'.un (numA f.k f.m 2))))); clear y4 yf4 x4 xf4; go_wp2)
              all_goals (go_roundg g)
              all_goals (first | omega | exact ⟨j + 1, { q with at' := { q.at' with un := max q.at'.un (numA f.k f.m 2) } }, by go_num, by go_num, by go_num, by omega, HSQ.out, by have := HNH.out; exact ⟨by first | omega | (simp only []; omega), by first | omega | (simp only []; omega)⟩, HX4.out, HB4.out⟩)
            · have k4 : (f.a == 4) = false := beq_eq_false_iff_ne.2 a4
              by_cases a5 : f.a = 5
              · have k5 : (f.a == 5) = true := by rw [a5, beq_self_eq_true]
                have x5 := HX1.out.cell 5
                have xf5 := HX1.out.fz 5
                obtain ⟨u, hu⟩ : ∃ u, q.at'.part = u := ⟨_, rfl⟩
                have HSQ : Hid ({ q with at' := { q.at' with part := u || trueA f.k f.m } } = foldM f0.e (fs.take (j + 1))) := by show _ = _; rw [HST.out, ← hu]; simp [stepM, a5]
                clear a1 a2 a3 a4 a5
                rw [hu] at x5
                cases u
                · go_wp2_with fail
                  refine (isTrue_any f.k f.m f.s _).mono ?_
                  rintro e w3 ⟨rfl, hb3⟩
                  have HX3 : Hid (BxA w3 (w.heap.size + 1) q.at') := HX1.out.next hb3 (by have := HZ.out; simp; omega)
                  have HB3 : Hid (Below (w.heap.size + 1) w0 w3) := HBN.out.trans (hb3.mono (by have := HZ.out; simp; omega))
                  clear hb3 x5 xf5
                  have x5 := HX3.out.cell 5
                  have xf5 := HX3.out.fz 5
                  have HX4 := Lib.hid (HX3.out.st5 (false || trueA f.k f.m))
                  have HB4 := Lib.hid (HB3.out.trans (below_st (W := w3) (Nat.le_refl (w.heap.size + 1)) 5 (.bool (false || trueA f.k f.m))))
                  simp only [Bool.false_or] at HX4 HB4 HSQ
                  go_wp2
                  go_roundg g
                  case measure => omega
                  case rel => exact ⟨j + 1, { q with at' := { q.at' with part := trueA f.k f.m } }, by go_num, by go_num, by go_num, by omega, HSQ.out, by have := HNH.out; exact ⟨by first | omega | (simp only []; omega), by first | omega | (simp only []; omega)⟩, HX4.out, HB4.out⟩
                · have HX4 := Lib.hid (HX1.out.st5 true)
                  have HB4 := Lib.hid (HBN.out.trans (below_st (W := (wr.alloc (.cells #[.int .i64 f.e, .int .i64 f.a, .int .i64 f.k, .int .i64 f.m, .string f.s, .slice As ln cs] 30))) (Nat.le_refl (w.heap.size + 1)) 5 (.bool true)))
                  simp only [Bool.true_or] at HSQ
                  go_wp2
                  go_roundg g
                  case measure => omega
                  case rel => exact ⟨j + 1, { q with at' := { q.at' with part := true } }, by go_num, by go_num, by go_num, by omega, HSQ.out, by have := HNH.out; exact ⟨by first | omega | (simp only []; omega), by first | omega | (simp only []; omega)⟩, HX4.out, HB4.out⟩
              · have k5 : (f.a == 5) = false := beq_eq_false_iff_ne.2 a5
                by_cases a6 : f.a = 6
                · have k6 : (f.a == 6) = true := by rw [a6, beq_self_eq_true]
                  have x6 := HX1.out.cell 6
                  have xf6 := HX1.out.fz 6
                  obtain ⟨u, hu⟩ : ∃ u, q.at'.ix = u := ⟨_, rfl⟩
                  have HSQ : Hid ({ q with at' := { q.at' with ix := u || trueA f.k f.m } } = foldM f0.e (fs.take (j + 1))) := by show _ = _; rw [HST.out, ← hu]; simp [stepM, a6]
                  clear a1 a2 a3 a4 a5 a6
                  rw [hu] at x6
                  cases u
                  · go_wp2_with fail
                    refine (isTrue_any f.k f.m f.s _).mono ?_
                    rintro e w3 ⟨rfl, hb3⟩
                    have HX3 : Hid (BxA w3 (w.heap.size + 1) q.at') := HX1.out.next hb3 (by have := HZ.out; simp; omega)
                    have HB3 : Hid (Below (w.heap.size + 1) w0 w3) := HBN.out.trans (hb3.mono (by have := HZ.out; simp; omega))
                    clear hb3 x6 xf6
                    have x6 := HX3.out.cell 6
                    have xf6 := HX3.out.fz 6
                    have HX4 := Lib.hid (HX3.out.st6 (false || trueA f.k f.m))
                    have HB4 := Lib.hid (HB3.out.trans (below_st (W := w3) (Nat.le_refl (w.heap.size + 1)) 6 (.bool (false || trueA f.k f.m))))
                    simp only [Bool.false_or] at HX4 HB4 HSQ
                    go_wp2
                    go_roundg g
                    case measure => omega
                    case rel => exact ⟨j + 1, { q with at' := { q.at' with ix := trueA f.k f.m } }, by go_num, by go_num, by go_num, by omega, HSQ.out, by have := HNH.out; exact ⟨by first | omega | (simp only []; omega), by first | omega | (simp only []; omega)⟩, HX4.out, HB4.out⟩
                  · have HX4 := Lib.hid (HX1.out.st6 true)
                    have HB4 := Lib.hid (HBN.out.trans (below_st (W := (wr.alloc (.cells #[.int .i64 f.e, .int .i64 f.a, .int .i64 f.k, .int .i64 f.m, .string f.s, .slice As ln cs] 30))) (Nat.le_refl (w.heap.size + 1)) 6 (.bool true)))
                    simp only [Bool.true_or] at HSQ
                    go_wp2
                    go_roundg g
                    case measure => omega
                    case rel => exact ⟨j + 1, { q with at' := { q.at' with ix := true } }, by go_num, by go_num, by go_num, by omega, HSQ.out, by have := HNH.out; exact ⟨by first | omega | (simp only []; omega), by first | omega | (simp only []; omega)⟩, HX4.out, HB4.out⟩
                · have k6 : (f.a == 6) = false := beq_eq_false_iff_ne.2 a6
                  have HSQ : Hid (q = foldM f0.e (fs.take (j + 1))) := by show _ = _; rw [HST.out]; simp [stepM, a1, a2, a3, a4, a5, a6]
                  clear a1 a2 a3 a4 a5 a6
                  go_wp2
                  go_roundg g
                  case measure => omega
                  case rel => exact ⟨j + 1, q, by go_num, by go_num, by go_num, by omega, HSQ.out, by have := HNH.out; exact ⟨by first | omega | (simp only []; omega), by first | omega | (simp only []; omega)⟩, HX1.out, HBN.out⟩
end Go.Proofs.Ytlmihlepaoifiaa
