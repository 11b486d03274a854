import Derived.Test.YtkoknogefmfmnaaJDSorted
/-
  CONTRACT over datoms: Read.
-/
namespace Go.Proofs.Ytkoknogefmfmnaa
open Go.RowKit

def zeroD : Dat := ⟨0, 0, 0, 0, ⟨#[]⟩, 0, false, 0, 0⟩
/-- What Read answers. -/
def DReadEnd (W : World) (o : Int) (b : List UInt8) (e : Ending) (w' : World) : Prop :=
  ((isO o = false ∧ e = .returned (.tuple #[dV zeroD, .int .i64 2])) ∨ (isO o = true ∧ readD o b = none ∧ e = .returned (.tuple #[dV zeroD, .int .i64 40])) ∨ (isO o = true ∧ ∃ d, readD o b = some d ∧ e = .returned (.tuple #[dV d, .int .i64 0]))) ∧ Below W.heap.size W w'
theorem dReadEnd_no {W w' : World} {o : Int} {b : List UInt8} (ho : isO o = true) (h : readD o b = none) (hb : Below W.heap.size W w') : DReadEnd W o b (.returned (.tuple #[dV zeroD, .int .i64 40])) w' := ⟨.inr (.inl ⟨ho, h, rfl⟩), hb⟩
theorem dReadEnd_yes {W w' : World} {o : Int} {b : List UInt8} {d : Dat} (ho : isO o = true) (h : readD o b = some d) (hb : Below W.heap.size W w') : DReadEnd W o b (.returned (.tuple #[dV d, .int .i64 0])) w' := ⟨.inr (.inr ⟨ho, d, h, rfl⟩), hb⟩
theorem slK_lit {W : World} {cs : Array Value} {t : TypeId} {ks : List Bool} (h : cs.toList = ks.map Value.bool) : SlK (W.alloc (.cells cs t)) (W.heap.size + 1) (some ⟨W.heap.size, 0, none⟩) ks := fun _ => by
  refine ⟨⟨W.heap.size, 0, none⟩, rfl, Nat.lt_succ_self _, fun j x hx => ?_⟩
  exact cell_lit W cs t j _ (by rw [h, List.getElem?_map, hx]; rfl)
theorem getD_size {l : List PartP} {B : Nat} (h : ∀ p ∈ l, p.s.size ≤ B) (j : Nat) : ((l[j]?).getD (numP 0)).s.size ≤ B := by
  cases hj : l[j]? with
  | none => exact Nat.zero_le _
  | some p => exact h p (List.mem_of_getElem? hj)
theorem datL_size {o : Int} {l : List PartP} {B : Nat} (h : ∀ p ∈ l, p.s.size ≤ B) : (datL o l).s.size ≤ B := getD_size h _
theorem readD_false {o : Int} {b : List UInt8} {l : List PartP} (h : readL (kindsD o) b = some l) (hf : (addOk l && fitD o (datL o l)) = false) : readD o b = none := by rw [readD_some h, hf]; rfl
theorem readD_true {o : Int} {b : List UInt8} {l : List PartP} (h : readL (kindsD o) b = some l) (hf : (addOk l && fitD o (datL o l)) = true) : readD o b = some (datL o l) := by rw [readD_some h, if_pos hf]

set_option maxRecDepth 100000 in
set_option maxHeartbeats 4000000 in
theorem readD_1 (A : Option Addr) (c : Nat) (b : List UInt8) (w : World) (hs : SlB w w.heap.size A b) (hl : b.length ≤ 9000) (hlc : b.length ≤ c) (hc : c ≤ maxLen) :
    Calls Try.prog 20 #[.int .i64 1, .slice A b.length c] w (DReadEnd w 1 b) := by
  have hmx : 50000 ≤ maxLen := by decide
  have HP : Hid (∀ X, Calls Try.prog 36 #[.int .i64 1] X fun e w' => e = .returned (.tuple #[.agg #[.int .i64 (0 : Int), .int .i64 (1 : Int), .int .i64 (2 : Int)], .bool true]) ∧ Below X.heap.size X w') := fun X => placesOf_any 1 X
  have HS := Lib.hid hs
  have HLC := Lib.hid (And.intro hlc hc)
  obtain ⟨w0, hw0⟩ : ∃ w0, w.alloc (.cells #[.int .i64 0, .int .i64 0, .int .i64 0, .int .i64 0, .string ⟨#[]⟩, .int .i64 0, .bool false, .int .i64 0, .int .i64 0] 36) = w0 := ⟨_, rfl⟩
  have HZ0 : Hid (DatAt w0 w.heap.size zeroD) := by rw [← hw0]; exact datAt_new w zeroD
  have HB0 : Hid (Below w.heap.size w w0) := by rw [← hw0]; exact (Below.refl _ _).alloc (Nat.le_refl _) _
  have HW0 := Lib.hid hw0
  clear hw0 hs hlc hc
  go_enter Try.func20, Try.ntmps20
  go_upto_region 1 with (fail)
  rw [HW0.out]
  go_wp2_with fail
  refine (HP.out _).mono ?_
  rintro e w1 ⟨rfl, hb⟩
  have HB1 := Lib.hid (HB0.out.trans (hb.mono HB0.out.size))
  have HZ1 := Lib.hid (HZ0.out.next hb HZ0.out.lt)
  clear hb
  go_wp2_with fail
  obtain ⟨w1', hw1⟩ : ∃ w1', w1.alloc (.cells #[.int .i64 0, .int .i64 1, .int .i64 2] 59) = w1' := ⟨_, rfl⟩
  rw [show w1.alloc (.cells #[.int .i64 0, .int .i64 1, .int .i64 2] 59) = w1' from hw1]
  have HZ2 : Hid (DatAt (w1'.alloc (.cells #[.bool false, .bool false, .bool true, .bool false, .bool false, .bool false, .bool false] 71)) w.heap.size zeroD) := by rw [← hw1]; exact (HZ1.out.alloc _).alloc _
  have HP2 : Hid (PlcAt (w1'.alloc (.cells #[.bool false, .bool false, .bool true, .bool false, .bool false, .bool false, .bool false] 71)) w1.heap.size 0 1 2) := by rw [← hw1]; exact (plcAt_new _ _ _ _).alloc _
  have hBw : Below w.heap.size w w1' := by rw [← hw1]; exact HB1.out.alloc HB1.out.size _
  have HB2 : Hid (Below w.heap.size w (w1'.alloc (.cells #[.bool false, .bool false, .bool true, .bool false, .bool false, .bool false, .bool false] 71))) := hBw.alloc hBw.size _
  have hsz : w1.heap.size + 1 = w1'.heap.size := by rw [← hw1]; simp
  have hsk : SlK (w1'.alloc (.cells #[.bool false, .bool false, .bool true, .bool false, .bool false, .bool false, .bool false] 71)) (w1'.alloc (.cells #[.bool false, .bool false, .bool true, .bool false, .bool false, .bool false, .bool false] 71)).heap.size (some ⟨w1.heap.size + 1, 0, none⟩) (kindsD 1) := by
    rw [hsz, World.size_alloc]
    exact slK_lit (ks := kindsD 1) rfl
  have hread := read_any A (some ⟨w1.heap.size + 1, 0, none⟩) c 7 b (kindsD 1) _ ((HS.out.next HB2.out (Nat.le_refl _)).more HB2.out.size) hsk (by omega) (by rw [kindsD_len]; omega) HLC.out.1 HLC.out.2
  rw [kindsD_len] at hread
  have HREAD := Lib.hid hread
  obtain ⟨w2, hw2⟩ : ∃ w2, w1'.alloc (.cells #[.bool false, .bool false, .bool true, .bool false, .bool false, .bool false, .bool false] 71) = w2 := ⟨_, rfl⟩
  rw [hw2] at HZ2 HP2 HB2 HREAD
  rw [hw2]
  clear hw2 hw1 hBw hsz hsk hread
  refine HREAD.out.mono ?_
  rintro e w3 ⟨⟨ps, pv, hr, rfl, hop⟩ | ⟨hr, rfl⟩, hb⟩
  rotate_left
  · have HB3 := Lib.hid (HB2.out.trans (hb.mono HB2.out.size))
    have HZX := Lib.hid (HZ2.out.next hb HZ2.out.lt)
    have HN := Lib.hid (readD_no (o := 1) hr)
    clear hb hr
    have c0 := HZX.out.c0
    have c1 := HZX.out.c1
    have c2 := HZX.out.c2
    have c3 := HZX.out.c3
    have c4 := HZX.out.c4
    have c5 := HZX.out.c5
    have c6 := HZX.out.c6
    have c7 := HZX.out.c7
    have c8 := HZX.out.c8
    have f0 := HZX.out.fz 0
    have f1 := HZX.out.fz 1
    have f2 := HZX.out.fz 2
    have f3 := HZX.out.fz 3
    have f4 := HZX.out.fz 4
    have f5 := HZX.out.fz 5
    have f6 := HZX.out.fz 6
    have f7 := HZX.out.fz 7
    have f8 := HZX.out.fz 8
    have HDN := Lib.hid (HZX.out.set9 zeroD)
    clear HZX
    go_wp2
    have e0 := HDN.out.c0
    have e1 := HDN.out.c1
    have e2 := HDN.out.c2
    have e3 := HDN.out.c3
    have e4 := HDN.out.c4
    have e5 := HDN.out.c5
    have e6 := HDN.out.c6
    have e7 := HDN.out.c7
    have e8 := HDN.out.c8
    simp only [zeroD] at e0 e1 e2 e3 e4 e5 e6 e7 e8
    refine bodyPost_ret (v := .tuple #[dV zeroD, .int .i64 40]) ?_ rfl (dReadEnd_no rfl HN.out (HB3.out.trans (below_set9 (Nat.le_refl _) _ _ _ _ _ _ _ _ _)))
    rw [results_cell_tmp rfl]
    unfold dV zeroD
    go_simp
  · obtain ⟨A3, c3, rfl, hs3⟩ := hop.slp
    have HB3 := Lib.hid (HB2.out.trans (hb.mono HB2.out.size))
    have HZ3 := Lib.hid (HZ2.out.next hb HZ2.out.lt)
    have hp3 := HP2.out.next hb HP2.out.lt
    have p0 := hp3.c0
    have p1 := hp3.c1
    have p2 := hp3.c2
    have hps : ps.length = 7 := by rw [← List.length_map (f := (·.v)), (readL_form hr).1, kindsD_len]
    obtain ⟨hk1, hk2, hk3, hk4⟩ := key_read hr
    have hsz : (datL 1 ps).s.size ≤ maxLen := Nat.le_trans (datL_size (B := costP ps) (fun p hp => by have := costP_mem hp; omega)) (by rw [kindsD_len] at hk4; omega)
    have hm := meth_any 0 1 2 (by omega) (by omega) (by omega) A3 c3 ps w3 hs3 hps
    rw [show datPl 0 1 2 ps = datL 1 ps from rfl] at hm
    have HRF := Lib.hid (fun h => readD_false (o := 1) hr h)
    have HRT := Lib.hid (fun h => readD_true (o := 1) hr h)
    obtain ⟨D, hD⟩ : ∃ D, datL 1 ps = D := ⟨_, rfl⟩
    obtain ⟨ok, hok⟩ : ∃ ok, addOk ps = ok := ⟨_, rfl⟩
    rw [hD, hok] at hm HRF HRT
    rw [hD] at hsz
    unfold dV at hm
    have HM := Lib.hid hm
    have HFT : Hid (fitD 1 D = (mayD D && hasD 1 D)) := rfl
    obtain ⟨b1, h1⟩ : ∃ b, mayD D = b := ⟨_, rfl⟩
    obtain ⟨b2, h2⟩ : ∃ b, hasD 1 D = b := ⟨_, rfl⟩
    have HMY := Lib.hid (fun X => by have h8 := dMay_any D X hsz; rw [h1] at h8; exact h8)
    have HHS := Lib.hid (fun X => by have h8 := has_any 1 D X; rw [h2] at h8; exact h8)
    rw [h1, h2] at HFT
    rw [HFT.out] at HRF HRT
    rw [hps]
    clear hb hop hs3 hk1 hk2 hk3 hk4 hm hD hok h1 h2 hp3 hr
    go_wp2_with fail
    refine HM.out.mono ?_
    rintro e w4 ⟨rfl, hb⟩
    have HB4 := Lib.hid (HB3.out.trans (hb.mono HB3.out.size))
    have HZ4 := Lib.hid ((HZ3.out.next hb HZ3.out.lt).alloc (.cells #[.int .i64 D.e, .int .i64 D.a, .int .i64 D.k, .int .i64 D.m, .string D.s, .int .i64 D.t, .bool D.add, .int .i64 D.fr, .int .i64 D.til] 36))
    have HB4' := Lib.hid (HB4.out.alloc HB4.out.size (.cells #[.int .i64 D.e, .int .i64 D.a, .int .i64 D.k, .int .i64 D.m, .string D.s, .int .i64 D.t, .bool D.add, .int .i64 D.fr, .int .i64 D.til] 36))
    have HD4 := Lib.hid (datAt_new w4 D)
    clear hb p0 p1 p2
    cases ok
    · have HN := Lib.hid (HRF.out rfl)
      have HZX := HZ4
      have c0 := HZX.out.c0
      have c1 := HZX.out.c1
      have c2 := HZX.out.c2
      have c3 := HZX.out.c3
      have c4 := HZX.out.c4
      have c5 := HZX.out.c5
      have c6 := HZX.out.c6
      have c7 := HZX.out.c7
      have c8 := HZX.out.c8
      have f0 := HZX.out.fz 0
      have f1 := HZX.out.fz 1
      have f2 := HZX.out.fz 2
      have f3 := HZX.out.fz 3
      have f4 := HZX.out.fz 4
      have f5 := HZX.out.fz 5
      have f6 := HZX.out.fz 6
      have f7 := HZX.out.fz 7
      have f8 := HZX.out.fz 8
      have HDN := Lib.hid (HZX.out.set9 zeroD)
      clear HZX
      go_wp2
      have e0 := HDN.out.c0
      have e1 := HDN.out.c1
      have e2 := HDN.out.c2
      have e3 := HDN.out.c3
      have e4 := HDN.out.c4
      have e5 := HDN.out.c5
      have e6 := HDN.out.c6
      have e7 := HDN.out.c7
      have e8 := HDN.out.c8
      simp only [zeroD] at e0 e1 e2 e3 e4 e5 e6 e7 e8
      refine bodyPost_ret (v := .tuple #[dV zeroD, .int .i64 40]) ?_ rfl (dReadEnd_no rfl HN.out (HB4'.out.trans (below_set9 (Nat.le_refl _) _ _ _ _ _ _ _ _ _)))
      rw [results_cell_tmp rfl]
      unfold dV zeroD
      go_simp
    go_wp2_with fail
    refine (HMY.out _).mono ?_
    rintro e w5 ⟨rfl, hb⟩
    have HB5 := Lib.hid (HB4'.out.trans (hb.mono HB4'.out.size))
    have HZ5 := Lib.hid (HZ4.out.next hb HZ4.out.lt)
    have HD5 := Lib.hid (HD4.out.next hb HD4.out.lt)
    clear hb
    cases b1
    · have HN := Lib.hid (HRF.out rfl)
      have HZX := HZ5
      have c0 := HZX.out.c0
      have c1 := HZX.out.c1
      have c2 := HZX.out.c2
      have c3 := HZX.out.c3
      have c4 := HZX.out.c4
      have c5 := HZX.out.c5
      have c6 := HZX.out.c6
      have c7 := HZX.out.c7
      have c8 := HZX.out.c8
      have f0 := HZX.out.fz 0
      have f1 := HZX.out.fz 1
      have f2 := HZX.out.fz 2
      have f3 := HZX.out.fz 3
      have f4 := HZX.out.fz 4
      have f5 := HZX.out.fz 5
      have f6 := HZX.out.fz 6
      have f7 := HZX.out.fz 7
      have f8 := HZX.out.fz 8
      have HDN := Lib.hid (HZX.out.set9 zeroD)
      clear HZX
      go_wp2
      have e0 := HDN.out.c0
      have e1 := HDN.out.c1
      have e2 := HDN.out.c2
      have e3 := HDN.out.c3
      have e4 := HDN.out.c4
      have e5 := HDN.out.c5
      have e6 := HDN.out.c6
      have e7 := HDN.out.c7
      have e8 := HDN.out.c8
      simp only [zeroD] at e0 e1 e2 e3 e4 e5 e6 e7 e8
      refine bodyPost_ret (v := .tuple #[dV zeroD, .int .i64 40]) ?_ rfl (dReadEnd_no rfl HN.out (HB5.out.trans (below_set9 (Nat.le_refl _) _ _ _ _ _ _ _ _ _)))
      rw [results_cell_tmp rfl]
      unfold dV zeroD
      go_simp
    have d0 := HD5.out.c0
    have d1 := HD5.out.c1
    have d2 := HD5.out.c2
    have d3 := HD5.out.c3
    have d4 := HD5.out.c4
    have d5 := HD5.out.c5
    have d6 := HD5.out.c6
    have d7 := HD5.out.c7
    have d8 := HD5.out.c8
    go_wp2_with fail
    refine (HHS.out _).mono ?_
    rintro e w6 ⟨rfl, hb⟩
    have HB6 := Lib.hid (HB5.out.trans (hb.mono HB5.out.size))
    have HZ6 := Lib.hid (HZ5.out.next hb HZ5.out.lt)
    have HD6 := Lib.hid (HD5.out.next hb HD5.out.lt)
    clear hb d0 d1 d2 d3 d4 d5 d6 d7 d8
    cases b2
    · have HN := Lib.hid (HRF.out rfl)
      have HZX := HZ6
      have c0 := HZX.out.c0
      have c1 := HZX.out.c1
      have c2 := HZX.out.c2
      have c3 := HZX.out.c3
      have c4 := HZX.out.c4
      have c5 := HZX.out.c5
      have c6 := HZX.out.c6
      have c7 := HZX.out.c7
      have c8 := HZX.out.c8
      have f0 := HZX.out.fz 0
      have f1 := HZX.out.fz 1
      have f2 := HZX.out.fz 2
      have f3 := HZX.out.fz 3
      have f4 := HZX.out.fz 4
      have f5 := HZX.out.fz 5
      have f6 := HZX.out.fz 6
      have f7 := HZX.out.fz 7
      have f8 := HZX.out.fz 8
      have HDN := Lib.hid (HZX.out.set9 zeroD)
      clear HZX
      go_wp2
      have e0 := HDN.out.c0
      have e1 := HDN.out.c1
      have e2 := HDN.out.c2
      have e3 := HDN.out.c3
      have e4 := HDN.out.c4
      have e5 := HDN.out.c5
      have e6 := HDN.out.c6
      have e7 := HDN.out.c7
      have e8 := HDN.out.c8
      simp only [zeroD] at e0 e1 e2 e3 e4 e5 e6 e7 e8
      refine bodyPost_ret (v := .tuple #[dV zeroD, .int .i64 40]) ?_ rfl (dReadEnd_no rfl HN.out (HB6.out.trans (below_set9 (Nat.le_refl _) _ _ _ _ _ _ _ _ _)))
      rw [results_cell_tmp rfl]
      unfold dV zeroD
      go_simp
    have HY := Lib.hid (HRT.out rfl)
    have d0 := HD6.out.c0
    have d1 := HD6.out.c1
    have d2 := HD6.out.c2
    have d3 := HD6.out.c3
    have d4 := HD6.out.c4
    have d5 := HD6.out.c5
    have d6 := HD6.out.c6
    have d7 := HD6.out.c7
    have d8 := HD6.out.c8
    have HZX := HZ6
    have c0 := HZX.out.c0
    have c1 := HZX.out.c1
    have c2 := HZX.out.c2
    have c3 := HZX.out.c3
    have c4 := HZX.out.c4
    have c5 := HZX.out.c5
    have c6 := HZX.out.c6
    have c7 := HZX.out.c7
    have c8 := HZX.out.c8
    have f0 := HZX.out.fz 0
    have f1 := HZX.out.fz 1
    have f2 := HZX.out.fz 2
    have f3 := HZX.out.fz 3
    have f4 := HZX.out.fz 4
    have f5 := HZX.out.fz 5
    have f6 := HZX.out.fz 6
    have f7 := HZX.out.fz 7
    have f8 := HZX.out.fz 8
    have HDN := Lib.hid (HZX.out.set9 D)
    clear HZX
    go_wp2
    have e0 := HDN.out.c0
    have e1 := HDN.out.c1
    have e2 := HDN.out.c2
    have e3 := HDN.out.c3
    have e4 := HDN.out.c4
    have e5 := HDN.out.c5
    have e6 := HDN.out.c6
    have e7 := HDN.out.c7
    have e8 := HDN.out.c8
    refine bodyPost_ret (v := .tuple #[dV D, .int .i64 0]) ?_ rfl (dReadEnd_yes rfl HY.out (HB6.out.trans (below_set9 (Nat.le_refl _) _ _ _ _ _ _ _ _ _)))
    rw [results_cell_tmp rfl]
    unfold dV
    go_simp

set_option maxRecDepth 100000 in
set_option maxHeartbeats 4000000 in
theorem readD_2 (A : Option Addr) (c : Nat) (b : List UInt8) (w : World) (hs : SlB w w.heap.size A b) (hl : b.length ≤ 9000) (hlc : b.length ≤ c) (hc : c ≤ maxLen) :
    Calls Try.prog 20 #[.int .i64 2, .slice A b.length c] w (DReadEnd w 2 b) := by
  have hmx : 50000 ≤ maxLen := by decide
  have HP : Hid (∀ X, Calls Try.prog 36 #[.int .i64 2] X fun e w' => e = .returned (.tuple #[.agg #[.int .i64 (1 : Int), .int .i64 (0 : Int), .int .i64 (2 : Int)], .bool true]) ∧ Below X.heap.size X w') := fun X => placesOf_any 2 X
  have HS := Lib.hid hs
  have HLC := Lib.hid (And.intro hlc hc)
  obtain ⟨w0, hw0⟩ : ∃ w0, w.alloc (.cells #[.int .i64 0, .int .i64 0, .int .i64 0, .int .i64 0, .string ⟨#[]⟩, .int .i64 0, .bool false, .int .i64 0, .int .i64 0] 36) = w0 := ⟨_, rfl⟩
  have HZ0 : Hid (DatAt w0 w.heap.size zeroD) := by rw [← hw0]; exact datAt_new w zeroD
  have HB0 : Hid (Below w.heap.size w w0) := by rw [← hw0]; exact (Below.refl _ _).alloc (Nat.le_refl _) _
  have HW0 := Lib.hid hw0
  clear hw0 hs hlc hc
  go_enter Try.func20, Try.ntmps20
  go_upto_region 1 with (fail)
  rw [HW0.out]
  go_wp2_with fail
  refine (HP.out _).mono ?_
  rintro e w1 ⟨rfl, hb⟩
  have HB1 := Lib.hid (HB0.out.trans (hb.mono HB0.out.size))
  have HZ1 := Lib.hid (HZ0.out.next hb HZ0.out.lt)
  clear hb
  go_wp2_with fail
  obtain ⟨w1', hw1⟩ : ∃ w1', w1.alloc (.cells #[.int .i64 1, .int .i64 0, .int .i64 2] 59) = w1' := ⟨_, rfl⟩
  rw [show w1.alloc (.cells #[.int .i64 1, .int .i64 0, .int .i64 2] 59) = w1' from hw1]
  have HZ2 : Hid (DatAt (w1'.alloc (.cells #[.bool false, .bool false, .bool true, .bool false, .bool false, .bool false, .bool false] 71)) w.heap.size zeroD) := by rw [← hw1]; exact (HZ1.out.alloc _).alloc _
  have HP2 : Hid (PlcAt (w1'.alloc (.cells #[.bool false, .bool false, .bool true, .bool false, .bool false, .bool false, .bool false] 71)) w1.heap.size 1 0 2) := by rw [← hw1]; exact (plcAt_new _ _ _ _).alloc _
  have hBw : Below w.heap.size w w1' := by rw [← hw1]; exact HB1.out.alloc HB1.out.size _
  have HB2 : Hid (Below w.heap.size w (w1'.alloc (.cells #[.bool false, .bool false, .bool true, .bool false, .bool false, .bool false, .bool false] 71))) := hBw.alloc hBw.size _
  have hsz : w1.heap.size + 1 = w1'.heap.size := by rw [← hw1]; simp
  have hsk : SlK (w1'.alloc (.cells #[.bool false, .bool false, .bool true, .bool false, .bool false, .bool false, .bool false] 71)) (w1'.alloc (.cells #[.bool false, .bool false, .bool true, .bool false, .bool false, .bool false, .bool false] 71)).heap.size (some ⟨w1.heap.size + 1, 0, none⟩) (kindsD 2) := by
    rw [hsz, World.size_alloc]
    exact slK_lit (ks := kindsD 2) rfl
  have hread := read_any A (some ⟨w1.heap.size + 1, 0, none⟩) c 7 b (kindsD 2) _ ((HS.out.next HB2.out (Nat.le_refl _)).more HB2.out.size) hsk (by omega) (by rw [kindsD_len]; omega) HLC.out.1 HLC.out.2
  rw [kindsD_len] at hread
  have HREAD := Lib.hid hread
  obtain ⟨w2, hw2⟩ : ∃ w2, w1'.alloc (.cells #[.bool false, .bool false, .bool true, .bool false, .bool false, .bool false, .bool false] 71) = w2 := ⟨_, rfl⟩
  rw [hw2] at HZ2 HP2 HB2 HREAD
  rw [hw2]
  clear hw2 hw1 hBw hsz hsk hread
  refine HREAD.out.mono ?_
  rintro e w3 ⟨⟨ps, pv, hr, rfl, hop⟩ | ⟨hr, rfl⟩, hb⟩
  rotate_left
  · have HB3 := Lib.hid (HB2.out.trans (hb.mono HB2.out.size))
    have HZX := Lib.hid (HZ2.out.next hb HZ2.out.lt)
    have HN := Lib.hid (readD_no (o := 2) hr)
    clear hb hr
    have c0 := HZX.out.c0
    have c1 := HZX.out.c1
    have c2 := HZX.out.c2
    have c3 := HZX.out.c3
    have c4 := HZX.out.c4
    have c5 := HZX.out.c5
    have c6 := HZX.out.c6
    have c7 := HZX.out.c7
    have c8 := HZX.out.c8
    have f0 := HZX.out.fz 0
    have f1 := HZX.out.fz 1
    have f2 := HZX.out.fz 2
    have f3 := HZX.out.fz 3
    have f4 := HZX.out.fz 4
    have f5 := HZX.out.fz 5
    have f6 := HZX.out.fz 6
    have f7 := HZX.out.fz 7
    have f8 := HZX.out.fz 8
    have HDN := Lib.hid (HZX.out.set9 zeroD)
    clear HZX
    go_wp2
    have e0 := HDN.out.c0
    have e1 := HDN.out.c1
    have e2 := HDN.out.c2
    have e3 := HDN.out.c3
    have e4 := HDN.out.c4
    have e5 := HDN.out.c5
    have e6 := HDN.out.c6
    have e7 := HDN.out.c7
    have e8 := HDN.out.c8
    simp only [zeroD] at e0 e1 e2 e3 e4 e5 e6 e7 e8
    refine bodyPost_ret (v := .tuple #[dV zeroD, .int .i64 40]) ?_ rfl (dReadEnd_no rfl HN.out (HB3.out.trans (below_set9 (Nat.le_refl _) _ _ _ _ _ _ _ _ _)))
    rw [results_cell_tmp rfl]
    unfold dV zeroD
    go_simp
  · obtain ⟨A3, c3, rfl, hs3⟩ := hop.slp
    have HB3 := Lib.hid (HB2.out.trans (hb.mono HB2.out.size))
    have HZ3 := Lib.hid (HZ2.out.next hb HZ2.out.lt)
    have hp3 := HP2.out.next hb HP2.out.lt
    have p0 := hp3.c0
    have p1 := hp3.c1
    have p2 := hp3.c2
    have hps : ps.length = 7 := by rw [← List.length_map (f := (·.v)), (readL_form hr).1, kindsD_len]
    obtain ⟨hk1, hk2, hk3, hk4⟩ := key_read hr
    have hsz : (datL 2 ps).s.size ≤ maxLen := Nat.le_trans (datL_size (B := costP ps) (fun p hp => by have := costP_mem hp; omega)) (by rw [kindsD_len] at hk4; omega)
    have hm := meth_any 1 0 2 (by omega) (by omega) (by omega) A3 c3 ps w3 hs3 hps
    rw [show datPl 1 0 2 ps = datL 2 ps from rfl] at hm
    have HRF := Lib.hid (fun h => readD_false (o := 2) hr h)
    have HRT := Lib.hid (fun h => readD_true (o := 2) hr h)
    obtain ⟨D, hD⟩ : ∃ D, datL 2 ps = D := ⟨_, rfl⟩
    obtain ⟨ok, hok⟩ : ∃ ok, addOk ps = ok := ⟨_, rfl⟩
    rw [hD, hok] at hm HRF HRT
    rw [hD] at hsz
    unfold dV at hm
    have HM := Lib.hid hm
    have HFT : Hid (fitD 2 D = (mayD D && hasD 2 D)) := rfl
    obtain ⟨b1, h1⟩ : ∃ b, mayD D = b := ⟨_, rfl⟩
    obtain ⟨b2, h2⟩ : ∃ b, hasD 2 D = b := ⟨_, rfl⟩
    have HMY := Lib.hid (fun X => by have h8 := dMay_any D X hsz; rw [h1] at h8; exact h8)
    have HHS := Lib.hid (fun X => by have h8 := has_any 2 D X; rw [h2] at h8; exact h8)
    rw [h1, h2] at HFT
    rw [HFT.out] at HRF HRT
    rw [hps]
    clear hb hop hs3 hk1 hk2 hk3 hk4 hm hD hok h1 h2 hp3 hr
    go_wp2_with fail
    refine HM.out.mono ?_
    rintro e w4 ⟨rfl, hb⟩
    have HB4 := Lib.hid (HB3.out.trans (hb.mono HB3.out.size))
    have HZ4 := Lib.hid ((HZ3.out.next hb HZ3.out.lt).alloc (.cells #[.int .i64 D.e, .int .i64 D.a, .int .i64 D.k, .int .i64 D.m, .string D.s, .int .i64 D.t, .bool D.add, .int .i64 D.fr, .int .i64 D.til] 36))
    have HB4' := Lib.hid (HB4.out.alloc HB4.out.size (.cells #[.int .i64 D.e, .int .i64 D.a, .int .i64 D.k, .int .i64 D.m, .string D.s, .int .i64 D.t, .bool D.add, .int .i64 D.fr, .int .i64 D.til] 36))
    have HD4 := Lib.hid (datAt_new w4 D)
    clear hb p0 p1 p2
    cases ok
    · have HN := Lib.hid (HRF.out rfl)
      have HZX := HZ4
      have c0 := HZX.out.c0
      have c1 := HZX.out.c1
      have c2 := HZX.out.c2
      have c3 := HZX.out.c3
      have c4 := HZX.out.c4
      have c5 := HZX.out.c5
      have c6 := HZX.out.c6
      have c7 := HZX.out.c7
      have c8 := HZX.out.c8
      have f0 := HZX.out.fz 0
      have f1 := HZX.out.fz 1
      have f2 := HZX.out.fz 2
      have f3 := HZX.out.fz 3
      have f4 := HZX.out.fz 4
      have f5 := HZX.out.fz 5
      have f6 := HZX.out.fz 6
      have f7 := HZX.out.fz 7
      have f8 := HZX.out.fz 8
      have HDN := Lib.hid (HZX.out.set9 zeroD)
      clear HZX
      go_wp2
      have e0 := HDN.out.c0
      have e1 := HDN.out.c1
      have e2 := HDN.out.c2
      have e3 := HDN.out.c3
      have e4 := HDN.out.c4
      have e5 := HDN.out.c5
      have e6 := HDN.out.c6
      have e7 := HDN.out.c7
      have e8 := HDN.out.c8
      simp only [zeroD] at e0 e1 e2 e3 e4 e5 e6 e7 e8
      refine bodyPost_ret (v := .tuple #[dV zeroD, .int .i64 40]) ?_ rfl (dReadEnd_no rfl HN.out (HB4'.out.trans (below_set9 (Nat.le_refl _) _ _ _ _ _ _ _ _ _)))
      rw [results_cell_tmp rfl]
      unfold dV zeroD
      go_simp
    go_wp2_with fail
    refine (HMY.out _).mono ?_
    rintro e w5 ⟨rfl, hb⟩
    have HB5 := Lib.hid (HB4'.out.trans (hb.mono HB4'.out.size))
    have HZ5 := Lib.hid (HZ4.out.next hb HZ4.out.lt)
    have HD5 := Lib.hid (HD4.out.next hb HD4.out.lt)
    clear hb
    cases b1
    · have HN := Lib.hid (HRF.out rfl)
      have HZX := HZ5
      have c0 := HZX.out.c0
      have c1 := HZX.out.c1
      have c2 := HZX.out.c2
      have c3 := HZX.out.c3
      have c4 := HZX.out.c4
      have c5 := HZX.out.c5
      have c6 := HZX.out.c6
      have c7 := HZX.out.c7
      have c8 := HZX.out.c8
      have f0 := HZX.out.fz 0
      have f1 := HZX.out.fz 1
      have f2 := HZX.out.fz 2
      have f3 := HZX.out.fz 3
      have f4 := HZX.out.fz 4
      have f5 := HZX.out.fz 5
      have f6 := HZX.out.fz 6
      have f7 := HZX.out.fz 7
      have f8 := HZX.out.fz 8
      have HDN := Lib.hid (HZX.out.set9 zeroD)
      clear HZX
      go_wp2
      have e0 := HDN.out.c0
      have e1 := HDN.out.c1
      have e2 := HDN.out.c2
      have e3 := HDN.out.c3
      have e4 := HDN.out.c4
      have e5 := HDN.out.c5
      have e6 := HDN.out.c6
      have e7 := HDN.out.c7
      have e8 := HDN.out.c8
      simp only [zeroD] at e0 e1 e2 e3 e4 e5 e6 e7 e8
      refine bodyPost_ret (v := .tuple #[dV zeroD, .int .i64 40]) ?_ rfl (dReadEnd_no rfl HN.out (HB5.out.trans (below_set9 (Nat.le_refl _) _ _ _ _ _ _ _ _ _)))
      rw [results_cell_tmp rfl]
      unfold dV zeroD
      go_simp
    have d0 := HD5.out.c0
    have d1 := HD5.out.c1
    have d2 := HD5.out.c2
    have d3 := HD5.out.c3
    have d4 := HD5.out.c4
    have d5 := HD5.out.c5
    have d6 := HD5.out.c6
    have d7 := HD5.out.c7
    have d8 := HD5.out.c8
    go_wp2_with fail
    refine (HHS.out _).mono ?_
    rintro e w6 ⟨rfl, hb⟩
    have HB6 := Lib.hid (HB5.out.trans (hb.mono HB5.out.size))
    have HZ6 := Lib.hid (HZ5.out.next hb HZ5.out.lt)
    have HD6 := Lib.hid (HD5.out.next hb HD5.out.lt)
    clear hb d0 d1 d2 d3 d4 d5 d6 d7 d8
    cases b2
    · have HN := Lib.hid (HRF.out rfl)
      have HZX := HZ6
      have c0 := HZX.out.c0
      have c1 := HZX.out.c1
      have c2 := HZX.out.c2
      have c3 := HZX.out.c3
      have c4 := HZX.out.c4
      have c5 := HZX.out.c5
      have c6 := HZX.out.c6
      have c7 := HZX.out.c7
      have c8 := HZX.out.c8
      have f0 := HZX.out.fz 0
      have f1 := HZX.out.fz 1
      have f2 := HZX.out.fz 2
      have f3 := HZX.out.fz 3
      have f4 := HZX.out.fz 4
      have f5 := HZX.out.fz 5
      have f6 := HZX.out.fz 6
      have f7 := HZX.out.fz 7
      have f8 := HZX.out.fz 8
      have HDN := Lib.hid (HZX.out.set9 zeroD)
      clear HZX
      go_wp2
      have e0 := HDN.out.c0
      have e1 := HDN.out.c1
      have e2 := HDN.out.c2
      have e3 := HDN.out.c3
      have e4 := HDN.out.c4
      have e5 := HDN.out.c5
      have e6 := HDN.out.c6
      have e7 := HDN.out.c7
      have e8 := HDN.out.c8
      simp only [zeroD] at e0 e1 e2 e3 e4 e5 e6 e7 e8
      refine bodyPost_ret (v := .tuple #[dV zeroD, .int .i64 40]) ?_ rfl (dReadEnd_no rfl HN.out (HB6.out.trans (below_set9 (Nat.le_refl _) _ _ _ _ _ _ _ _ _)))
      rw [results_cell_tmp rfl]
      unfold dV zeroD
      go_simp
    have HY := Lib.hid (HRT.out rfl)
    have d0 := HD6.out.c0
    have d1 := HD6.out.c1
    have d2 := HD6.out.c2
    have d3 := HD6.out.c3
    have d4 := HD6.out.c4
    have d5 := HD6.out.c5
    have d6 := HD6.out.c6
    have d7 := HD6.out.c7
    have d8 := HD6.out.c8
    have HZX := HZ6
    have c0 := HZX.out.c0
    have c1 := HZX.out.c1
    have c2 := HZX.out.c2
    have c3 := HZX.out.c3
    have c4 := HZX.out.c4
    have c5 := HZX.out.c5
    have c6 := HZX.out.c6
    have c7 := HZX.out.c7
    have c8 := HZX.out.c8
    have f0 := HZX.out.fz 0
    have f1 := HZX.out.fz 1
    have f2 := HZX.out.fz 2
    have f3 := HZX.out.fz 3
    have f4 := HZX.out.fz 4
    have f5 := HZX.out.fz 5
    have f6 := HZX.out.fz 6
    have f7 := HZX.out.fz 7
    have f8 := HZX.out.fz 8
    have HDN := Lib.hid (HZX.out.set9 D)
    clear HZX
    go_wp2
    have e0 := HDN.out.c0
    have e1 := HDN.out.c1
    have e2 := HDN.out.c2
    have e3 := HDN.out.c3
    have e4 := HDN.out.c4
    have e5 := HDN.out.c5
    have e6 := HDN.out.c6
    have e7 := HDN.out.c7
    have e8 := HDN.out.c8
    refine bodyPost_ret (v := .tuple #[dV D, .int .i64 0]) ?_ rfl (dReadEnd_yes rfl HY.out (HB6.out.trans (below_set9 (Nat.le_refl _) _ _ _ _ _ _ _ _ _)))
    rw [results_cell_tmp rfl]
    unfold dV
    go_simp

set_option maxRecDepth 100000 in
set_option maxHeartbeats 4000000 in
theorem readD_3 (A : Option Addr) (c : Nat) (b : List UInt8) (w : World) (hs : SlB w w.heap.size A b) (hl : b.length ≤ 9000) (hlc : b.length ≤ c) (hc : c ≤ maxLen) :
    Calls Try.prog 20 #[.int .i64 3, .slice A b.length c] w (DReadEnd w 3 b) := by
  have hmx : 50000 ≤ maxLen := by decide
  have HP : Hid (∀ X, Calls Try.prog 36 #[.int .i64 3] X fun e w' => e = .returned (.tuple #[.agg #[.int .i64 (2 : Int), .int .i64 (0 : Int), .int .i64 (1 : Int)], .bool true]) ∧ Below X.heap.size X w') := fun X => placesOf_any 3 X
  have HS := Lib.hid hs
  have HLC := Lib.hid (And.intro hlc hc)
  obtain ⟨w0, hw0⟩ : ∃ w0, w.alloc (.cells #[.int .i64 0, .int .i64 0, .int .i64 0, .int .i64 0, .string ⟨#[]⟩, .int .i64 0, .bool false, .int .i64 0, .int .i64 0] 36) = w0 := ⟨_, rfl⟩
  have HZ0 : Hid (DatAt w0 w.heap.size zeroD) := by rw [← hw0]; exact datAt_new w zeroD
  have HB0 : Hid (Below w.heap.size w w0) := by rw [← hw0]; exact (Below.refl _ _).alloc (Nat.le_refl _) _
  have HW0 := Lib.hid hw0
  clear hw0 hs hlc hc
  go_enter Try.func20, Try.ntmps20
  go_upto_region 1 with (fail)
  rw [HW0.out]
  go_wp2_with fail
  refine (HP.out _).mono ?_
  rintro e w1 ⟨rfl, hb⟩
  have HB1 := Lib.hid (HB0.out.trans (hb.mono HB0.out.size))
  have HZ1 := Lib.hid (HZ0.out.next hb HZ0.out.lt)
  clear hb
  go_wp2_with fail
  obtain ⟨w1', hw1⟩ : ∃ w1', w1.alloc (.cells #[.int .i64 2, .int .i64 0, .int .i64 1] 59) = w1' := ⟨_, rfl⟩
  rw [show w1.alloc (.cells #[.int .i64 2, .int .i64 0, .int .i64 1] 59) = w1' from hw1]
  have HZ2 : Hid (DatAt (w1'.alloc (.cells #[.bool false, .bool true, .bool false, .bool false, .bool false, .bool false, .bool false] 71)) w.heap.size zeroD) := by rw [← hw1]; exact (HZ1.out.alloc _).alloc _
  have HP2 : Hid (PlcAt (w1'.alloc (.cells #[.bool false, .bool true, .bool false, .bool false, .bool false, .bool false, .bool false] 71)) w1.heap.size 2 0 1) := by rw [← hw1]; exact (plcAt_new _ _ _ _).alloc _
  have hBw : Below w.heap.size w w1' := by rw [← hw1]; exact HB1.out.alloc HB1.out.size _
  have HB2 : Hid (Below w.heap.size w (w1'.alloc (.cells #[.bool false, .bool true, .bool false, .bool false, .bool false, .bool false, .bool false] 71))) := hBw.alloc hBw.size _
  have hsz : w1.heap.size + 1 = w1'.heap.size := by rw [← hw1]; simp
  have hsk : SlK (w1'.alloc (.cells #[.bool false, .bool true, .bool false, .bool false, .bool false, .bool false, .bool false] 71)) (w1'.alloc (.cells #[.bool false, .bool true, .bool false, .bool false, .bool false, .bool false, .bool false] 71)).heap.size (some ⟨w1.heap.size + 1, 0, none⟩) (kindsD 3) := by
    rw [hsz, World.size_alloc]
    exact slK_lit (ks := kindsD 3) rfl
  have hread := read_any A (some ⟨w1.heap.size + 1, 0, none⟩) c 7 b (kindsD 3) _ ((HS.out.next HB2.out (Nat.le_refl _)).more HB2.out.size) hsk (by omega) (by rw [kindsD_len]; omega) HLC.out.1 HLC.out.2
  rw [kindsD_len] at hread
  have HREAD := Lib.hid hread
  obtain ⟨w2, hw2⟩ : ∃ w2, w1'.alloc (.cells #[.bool false, .bool true, .bool false, .bool false, .bool false, .bool false, .bool false] 71) = w2 := ⟨_, rfl⟩
  rw [hw2] at HZ2 HP2 HB2 HREAD
  rw [hw2]
  clear hw2 hw1 hBw hsz hsk hread
  refine HREAD.out.mono ?_
  rintro e w3 ⟨⟨ps, pv, hr, rfl, hop⟩ | ⟨hr, rfl⟩, hb⟩
  rotate_left
  · have HB3 := Lib.hid (HB2.out.trans (hb.mono HB2.out.size))
    have HZX := Lib.hid (HZ2.out.next hb HZ2.out.lt)
    have HN := Lib.hid (readD_no (o := 3) hr)
    clear hb hr
    have c0 := HZX.out.c0
    have c1 := HZX.out.c1
    have c2 := HZX.out.c2
    have c3 := HZX.out.c3
    have c4 := HZX.out.c4
    have c5 := HZX.out.c5
    have c6 := HZX.out.c6
    have c7 := HZX.out.c7
    have c8 := HZX.out.c8
    have f0 := HZX.out.fz 0
    have f1 := HZX.out.fz 1
    have f2 := HZX.out.fz 2
    have f3 := HZX.out.fz 3
    have f4 := HZX.out.fz 4
    have f5 := HZX.out.fz 5
    have f6 := HZX.out.fz 6
    have f7 := HZX.out.fz 7
    have f8 := HZX.out.fz 8
    have HDN := Lib.hid (HZX.out.set9 zeroD)
    clear HZX
    go_wp2
    have e0 := HDN.out.c0
    have e1 := HDN.out.c1
    have e2 := HDN.out.c2
    have e3 := HDN.out.c3
    have e4 := HDN.out.c4
    have e5 := HDN.out.c5
    have e6 := HDN.out.c6
    have e7 := HDN.out.c7
    have e8 := HDN.out.c8
    simp only [zeroD] at e0 e1 e2 e3 e4 e5 e6 e7 e8
    refine bodyPost_ret (v := .tuple #[dV zeroD, .int .i64 40]) ?_ rfl (dReadEnd_no rfl HN.out (HB3.out.trans (below_set9 (Nat.le_refl _) _ _ _ _ _ _ _ _ _)))
    rw [results_cell_tmp rfl]
    unfold dV zeroD
    go_simp
  · obtain ⟨A3, c3, rfl, hs3⟩ := hop.slp
    have HB3 := Lib.hid (HB2.out.trans (hb.mono HB2.out.size))
    have HZ3 := Lib.hid (HZ2.out.next hb HZ2.out.lt)
    have hp3 := HP2.out.next hb HP2.out.lt
    have p0 := hp3.c0
    have p1 := hp3.c1
    have p2 := hp3.c2
    have hps : ps.length = 7 := by rw [← List.length_map (f := (·.v)), (readL_form hr).1, kindsD_len]
    obtain ⟨hk1, hk2, hk3, hk4⟩ := key_read hr
    have hsz : (datL 3 ps).s.size ≤ maxLen := Nat.le_trans (datL_size (B := costP ps) (fun p hp => by have := costP_mem hp; omega)) (by rw [kindsD_len] at hk4; omega)
    have hm := meth_any 2 0 1 (by omega) (by omega) (by omega) A3 c3 ps w3 hs3 hps
    rw [show datPl 2 0 1 ps = datL 3 ps from rfl] at hm
    have HRF := Lib.hid (fun h => readD_false (o := 3) hr h)
    have HRT := Lib.hid (fun h => readD_true (o := 3) hr h)
    obtain ⟨D, hD⟩ : ∃ D, datL 3 ps = D := ⟨_, rfl⟩
    obtain ⟨ok, hok⟩ : ∃ ok, addOk ps = ok := ⟨_, rfl⟩
    rw [hD, hok] at hm HRF HRT
    rw [hD] at hsz
    unfold dV at hm
    have HM := Lib.hid hm
    have HFT : Hid (fitD 3 D = (mayD D && hasD 3 D)) := rfl
    obtain ⟨b1, h1⟩ : ∃ b, mayD D = b := ⟨_, rfl⟩
    obtain ⟨b2, h2⟩ : ∃ b, hasD 3 D = b := ⟨_, rfl⟩
    have HMY := Lib.hid (fun X => by have h8 := dMay_any D X hsz; rw [h1] at h8; exact h8)
    have HHS := Lib.hid (fun X => by have h8 := has_any 3 D X; rw [h2] at h8; exact h8)
    rw [h1, h2] at HFT
    rw [HFT.out] at HRF HRT
    rw [hps]
    clear hb hop hs3 hk1 hk2 hk3 hk4 hm hD hok h1 h2 hp3 hr
    go_wp2_with fail
    refine HM.out.mono ?_
    rintro e w4 ⟨rfl, hb⟩
    have HB4 := Lib.hid (HB3.out.trans (hb.mono HB3.out.size))
    have HZ4 := Lib.hid ((HZ3.out.next hb HZ3.out.lt).alloc (.cells #[.int .i64 D.e, .int .i64 D.a, .int .i64 D.k, .int .i64 D.m, .string D.s, .int .i64 D.t, .bool D.add, .int .i64 D.fr, .int .i64 D.til] 36))
    have HB4' := Lib.hid (HB4.out.alloc HB4.out.size (.cells #[.int .i64 D.e, .int .i64 D.a, .int .i64 D.k, .int .i64 D.m, .string D.s, .int .i64 D.t, .bool D.add, .int .i64 D.fr, .int .i64 D.til] 36))
    have HD4 := Lib.hid (datAt_new w4 D)
    clear hb p0 p1 p2
    cases ok
    · have HN := Lib.hid (HRF.out rfl)
      have HZX := HZ4
      have c0 := HZX.out.c0
      have c1 := HZX.out.c1
      have c2 := HZX.out.c2
      have c3 := HZX.out.c3
      have c4 := HZX.out.c4
      have c5 := HZX.out.c5
      have c6 := HZX.out.c6
      have c7 := HZX.out.c7
      have c8 := HZX.out.c8
      have f0 := HZX.out.fz 0
      have f1 := HZX.out.fz 1
      have f2 := HZX.out.fz 2
      have f3 := HZX.out.fz 3
      have f4 := HZX.out.fz 4
      have f5 := HZX.out.fz 5
      have f6 := HZX.out.fz 6
      have f7 := HZX.out.fz 7
      have f8 := HZX.out.fz 8
      have HDN := Lib.hid (HZX.out.set9 zeroD)
      clear HZX
      go_wp2
      have e0 := HDN.out.c0
      have e1 := HDN.out.c1
      have e2 := HDN.out.c2
      have e3 := HDN.out.c3
      have e4 := HDN.out.c4
      have e5 := HDN.out.c5
      have e6 := HDN.out.c6
      have e7 := HDN.out.c7
      have e8 := HDN.out.c8
      simp only [zeroD] at e0 e1 e2 e3 e4 e5 e6 e7 e8
      refine bodyPost_ret (v := .tuple #[dV zeroD, .int .i64 40]) ?_ rfl (dReadEnd_no rfl HN.out (HB4'.out.trans (below_set9 (Nat.le_refl _) _ _ _ _ _ _ _ _ _)))
      rw [results_cell_tmp rfl]
      unfold dV zeroD
      go_simp
    go_wp2_with fail
    refine (HMY.out _).mono ?_
    rintro e w5 ⟨rfl, hb⟩
    have HB5 := Lib.hid (HB4'.out.trans (hb.mono HB4'.out.size))
    have HZ5 := Lib.hid (HZ4.out.next hb HZ4.out.lt)
    have HD5 := Lib.hid (HD4.out.next hb HD4.out.lt)
    clear hb
    cases b1
    · have HN := Lib.hid (HRF.out rfl)
      have HZX := HZ5
      have c0 := HZX.out.c0
      have c1 := HZX.out.c1
      have c2 := HZX.out.c2
      have c3 := HZX.out.c3
      have c4 := HZX.out.c4
      have c5 := HZX.out.c5
      have c6 := HZX.out.c6
      have c7 := HZX.out.c7
      have c8 := HZX.out.c8
      have f0 := HZX.out.fz 0
      have f1 := HZX.out.fz 1
      have f2 := HZX.out.fz 2
      have f3 := HZX.out.fz 3
      have f4 := HZX.out.fz 4
      have f5 := HZX.out.fz 5
      have f6 := HZX.out.fz 6
      have f7 := HZX.out.fz 7
      have f8 := HZX.out.fz 8
      have HDN := Lib.hid (HZX.out.set9 zeroD)
      clear HZX
      go_wp2
      have e0 := HDN.out.c0
      have e1 := HDN.out.c1
      have e2 := HDN.out.c2
      have e3 := HDN.out.c3
      have e4 := HDN.out.c4
      have e5 := HDN.out.c5
      have e6 := HDN.out.c6
      have e7 := HDN.out.c7
      have e8 := HDN.out.c8
      simp only [zeroD] at e0 e1 e2 e3 e4 e5 e6 e7 e8
      refine bodyPost_ret (v := .tuple #[dV zeroD, .int .i64 40]) ?_ rfl (dReadEnd_no rfl HN.out (HB5.out.trans (below_set9 (Nat.le_refl _) _ _ _ _ _ _ _ _ _)))
      rw [results_cell_tmp rfl]
      unfold dV zeroD
      go_simp
    have d0 := HD5.out.c0
    have d1 := HD5.out.c1
    have d2 := HD5.out.c2
    have d3 := HD5.out.c3
    have d4 := HD5.out.c4
    have d5 := HD5.out.c5
    have d6 := HD5.out.c6
    have d7 := HD5.out.c7
    have d8 := HD5.out.c8
    go_wp2_with fail
    refine (HHS.out _).mono ?_
    rintro e w6 ⟨rfl, hb⟩
    have HB6 := Lib.hid (HB5.out.trans (hb.mono HB5.out.size))
    have HZ6 := Lib.hid (HZ5.out.next hb HZ5.out.lt)
    have HD6 := Lib.hid (HD5.out.next hb HD5.out.lt)
    clear hb d0 d1 d2 d3 d4 d5 d6 d7 d8
    cases b2
    · have HN := Lib.hid (HRF.out rfl)
      have HZX := HZ6
      have c0 := HZX.out.c0
      have c1 := HZX.out.c1
      have c2 := HZX.out.c2
      have c3 := HZX.out.c3
      have c4 := HZX.out.c4
      have c5 := HZX.out.c5
      have c6 := HZX.out.c6
      have c7 := HZX.out.c7
      have c8 := HZX.out.c8
      have f0 := HZX.out.fz 0
      have f1 := HZX.out.fz 1
      have f2 := HZX.out.fz 2
      have f3 := HZX.out.fz 3
      have f4 := HZX.out.fz 4
      have f5 := HZX.out.fz 5
      have f6 := HZX.out.fz 6
      have f7 := HZX.out.fz 7
      have f8 := HZX.out.fz 8
      have HDN := Lib.hid (HZX.out.set9 zeroD)
      clear HZX
      go_wp2
      have e0 := HDN.out.c0
      have e1 := HDN.out.c1
      have e2 := HDN.out.c2
      have e3 := HDN.out.c3
      have e4 := HDN.out.c4
      have e5 := HDN.out.c5
      have e6 := HDN.out.c6
      have e7 := HDN.out.c7
      have e8 := HDN.out.c8
      simp only [zeroD] at e0 e1 e2 e3 e4 e5 e6 e7 e8
      refine bodyPost_ret (v := .tuple #[dV zeroD, .int .i64 40]) ?_ rfl (dReadEnd_no rfl HN.out (HB6.out.trans (below_set9 (Nat.le_refl _) _ _ _ _ _ _ _ _ _)))
      rw [results_cell_tmp rfl]
      unfold dV zeroD
      go_simp
    have HY := Lib.hid (HRT.out rfl)
    have d0 := HD6.out.c0
    have d1 := HD6.out.c1
    have d2 := HD6.out.c2
    have d3 := HD6.out.c3
    have d4 := HD6.out.c4
    have d5 := HD6.out.c5
    have d6 := HD6.out.c6
    have d7 := HD6.out.c7
    have d8 := HD6.out.c8
    have HZX := HZ6
    have c0 := HZX.out.c0
    have c1 := HZX.out.c1
    have c2 := HZX.out.c2
    have c3 := HZX.out.c3
    have c4 := HZX.out.c4
    have c5 := HZX.out.c5
    have c6 := HZX.out.c6
    have c7 := HZX.out.c7
    have c8 := HZX.out.c8
    have f0 := HZX.out.fz 0
    have f1 := HZX.out.fz 1
    have f2 := HZX.out.fz 2
    have f3 := HZX.out.fz 3
    have f4 := HZX.out.fz 4
    have f5 := HZX.out.fz 5
    have f6 := HZX.out.fz 6
    have f7 := HZX.out.fz 7
    have f8 := HZX.out.fz 8
    have HDN := Lib.hid (HZX.out.set9 D)
    clear HZX
    go_wp2
    have e0 := HDN.out.c0
    have e1 := HDN.out.c1
    have e2 := HDN.out.c2
    have e3 := HDN.out.c3
    have e4 := HDN.out.c4
    have e5 := HDN.out.c5
    have e6 := HDN.out.c6
    have e7 := HDN.out.c7
    have e8 := HDN.out.c8
    refine bodyPost_ret (v := .tuple #[dV D, .int .i64 0]) ?_ rfl (dReadEnd_yes rfl HY.out (HB6.out.trans (below_set9 (Nat.le_refl _) _ _ _ _ _ _ _ _ _)))
    rw [results_cell_tmp rfl]
    unfold dV
    go_simp

set_option maxRecDepth 100000 in
set_option maxHeartbeats 4000000 in
theorem readD_4 (A : Option Addr) (c : Nat) (b : List UInt8) (w : World) (hs : SlB w w.heap.size A b) (hl : b.length ≤ 9000) (hlc : b.length ≤ c) (hc : c ≤ maxLen) :
    Calls Try.prog 20 #[.int .i64 4, .slice A b.length c] w (DReadEnd w 4 b) := by
  have hmx : 50000 ≤ maxLen := by decide
  have HP : Hid (∀ X, Calls Try.prog 36 #[.int .i64 4] X fun e w' => e = .returned (.tuple #[.agg #[.int .i64 (2 : Int), .int .i64 (1 : Int), .int .i64 (0 : Int)], .bool true]) ∧ Below X.heap.size X w') := fun X => placesOf_any 4 X
  have HS := Lib.hid hs
  have HLC := Lib.hid (And.intro hlc hc)
  obtain ⟨w0, hw0⟩ : ∃ w0, w.alloc (.cells #[.int .i64 0, .int .i64 0, .int .i64 0, .int .i64 0, .string ⟨#[]⟩, .int .i64 0, .bool false, .int .i64 0, .int .i64 0] 36) = w0 := ⟨_, rfl⟩
  have HZ0 : Hid (DatAt w0 w.heap.size zeroD) := by rw [← hw0]; exact datAt_new w zeroD
  have HB0 : Hid (Below w.heap.size w w0) := by rw [← hw0]; exact (Below.refl _ _).alloc (Nat.le_refl _) _
  have HW0 := Lib.hid hw0
  clear hw0 hs hlc hc
  go_enter Try.func20, Try.ntmps20
  go_upto_region 1 with (fail)
  rw [HW0.out]
  go_wp2_with fail
  refine (HP.out _).mono ?_
  rintro e w1 ⟨rfl, hb⟩
  have HB1 := Lib.hid (HB0.out.trans (hb.mono HB0.out.size))
  have HZ1 := Lib.hid (HZ0.out.next hb HZ0.out.lt)
  clear hb
  go_wp2_with fail
  obtain ⟨w1', hw1⟩ : ∃ w1', w1.alloc (.cells #[.int .i64 2, .int .i64 1, .int .i64 0] 59) = w1' := ⟨_, rfl⟩
  rw [show w1.alloc (.cells #[.int .i64 2, .int .i64 1, .int .i64 0] 59) = w1' from hw1]
  have HZ2 : Hid (DatAt (w1'.alloc (.cells #[.bool true, .bool false, .bool false, .bool false, .bool false, .bool false, .bool false] 71)) w.heap.size zeroD) := by rw [← hw1]; exact (HZ1.out.alloc _).alloc _
  have HP2 : Hid (PlcAt (w1'.alloc (.cells #[.bool true, .bool false, .bool false, .bool false, .bool false, .bool false, .bool false] 71)) w1.heap.size 2 1 0) := by rw [← hw1]; exact (plcAt_new _ _ _ _).alloc _
  have hBw : Below w.heap.size w w1' := by rw [← hw1]; exact HB1.out.alloc HB1.out.size _
  have HB2 : Hid (Below w.heap.size w (w1'.alloc (.cells #[.bool true, .bool false, .bool false, .bool false, .bool false, .bool false, .bool false] 71))) := hBw.alloc hBw.size _
  have hsz : w1.heap.size + 1 = w1'.heap.size := by rw [← hw1]; simp
  have hsk : SlK (w1'.alloc (.cells #[.bool true, .bool false, .bool false, .bool false, .bool false, .bool false, .bool false] 71)) (w1'.alloc (.cells #[.bool true, .bool false, .bool false, .bool false, .bool false, .bool false, .bool false] 71)).heap.size (some ⟨w1.heap.size + 1, 0, none⟩) (kindsD 4) := by
    rw [hsz, World.size_alloc]
    exact slK_lit (ks := kindsD 4) rfl
  have hread := read_any A (some ⟨w1.heap.size + 1, 0, none⟩) c 7 b (kindsD 4) _ ((HS.out.next HB2.out (Nat.le_refl _)).more HB2.out.size) hsk (by omega) (by rw [kindsD_len]; omega) HLC.out.1 HLC.out.2
  rw [kindsD_len] at hread
  have HREAD := Lib.hid hread
  obtain ⟨w2, hw2⟩ : ∃ w2, w1'.alloc (.cells #[.bool true, .bool false, .bool false, .bool false, .bool false, .bool false, .bool false] 71) = w2 := ⟨_, rfl⟩
  rw [hw2] at HZ2 HP2 HB2 HREAD
  rw [hw2]
  clear hw2 hw1 hBw hsz hsk hread
  refine HREAD.out.mono ?_
  rintro e w3 ⟨⟨ps, pv, hr, rfl, hop⟩ | ⟨hr, rfl⟩, hb⟩
  rotate_left
  · have HB3 := Lib.hid (HB2.out.trans (hb.mono HB2.out.size))
    have HZX := Lib.hid (HZ2.out.next hb HZ2.out.lt)
    have HN := Lib.hid (readD_no (o := 4) hr)
    clear hb hr
    have c0 := HZX.out.c0
    have c1 := HZX.out.c1
    have c2 := HZX.out.c2
    have c3 := HZX.out.c3
    have c4 := HZX.out.c4
    have c5 := HZX.out.c5
    have c6 := HZX.out.c6
    have c7 := HZX.out.c7
    have c8 := HZX.out.c8
    have f0 := HZX.out.fz 0
    have f1 := HZX.out.fz 1
    have f2 := HZX.out.fz 2
    have f3 := HZX.out.fz 3
    have f4 := HZX.out.fz 4
    have f5 := HZX.out.fz 5
    have f6 := HZX.out.fz 6
    have f7 := HZX.out.fz 7
    have f8 := HZX.out.fz 8
    have HDN := Lib.hid (HZX.out.set9 zeroD)
    clear HZX
    go_wp2
    have e0 := HDN.out.c0
    have e1 := HDN.out.c1
    have e2 := HDN.out.c2
    have e3 := HDN.out.c3
    have e4 := HDN.out.c4
    have e5 := HDN.out.c5
    have e6 := HDN.out.c6
    have e7 := HDN.out.c7
    have e8 := HDN.out.c8
    simp only [zeroD] at e0 e1 e2 e3 e4 e5 e6 e7 e8
    refine bodyPost_ret (v := .tuple #[dV zeroD, .int .i64 40]) ?_ rfl (dReadEnd_no rfl HN.out (HB3.out.trans (below_set9 (Nat.le_refl _) _ _ _ _ _ _ _ _ _)))
    rw [results_cell_tmp rfl]
    unfold dV zeroD
    go_simp
  · obtain ⟨A3, c3, rfl, hs3⟩ := hop.slp
    have HB3 := Lib.hid (HB2.out.trans (hb.mono HB2.out.size))
    have HZ3 := Lib.hid (HZ2.out.next hb HZ2.out.lt)
    have hp3 := HP2.out.next hb HP2.out.lt
    have p0 := hp3.c0
    have p1 := hp3.c1
    have p2 := hp3.c2
    have hps : ps.length = 7 := by rw [← List.length_map (f := (·.v)), (readL_form hr).1, kindsD_len]
    obtain ⟨hk1, hk2, hk3, hk4⟩ := key_read hr
    have hsz : (datL 4 ps).s.size ≤ maxLen := Nat.le_trans (datL_size (B := costP ps) (fun p hp => by have := costP_mem hp; omega)) (by rw [kindsD_len] at hk4; omega)
    have hm := meth_any 2 1 0 (by omega) (by omega) (by omega) A3 c3 ps w3 hs3 hps
    rw [show datPl 2 1 0 ps = datL 4 ps from rfl] at hm
    have HRF := Lib.hid (fun h => readD_false (o := 4) hr h)
    have HRT := Lib.hid (fun h => readD_true (o := 4) hr h)
    obtain ⟨D, hD⟩ : ∃ D, datL 4 ps = D := ⟨_, rfl⟩
    obtain ⟨ok, hok⟩ : ∃ ok, addOk ps = ok := ⟨_, rfl⟩
    rw [hD, hok] at hm HRF HRT
    rw [hD] at hsz
    unfold dV at hm
    have HM := Lib.hid hm
    have HFT : Hid (fitD 4 D = (mayD D && hasD 4 D)) := rfl
    obtain ⟨b1, h1⟩ : ∃ b, mayD D = b := ⟨_, rfl⟩
    obtain ⟨b2, h2⟩ : ∃ b, hasD 4 D = b := ⟨_, rfl⟩
    have HMY := Lib.hid (fun X => by have h8 := dMay_any D X hsz; rw [h1] at h8; exact h8)
    have HHS := Lib.hid (fun X => by have h8 := has_any 4 D X; rw [h2] at h8; exact h8)
    rw [h1, h2] at HFT
    rw [HFT.out] at HRF HRT
    rw [hps]
    clear hb hop hs3 hk1 hk2 hk3 hk4 hm hD hok h1 h2 hp3 hr
    go_wp2_with fail
    refine HM.out.mono ?_
    rintro e w4 ⟨rfl, hb⟩
    have HB4 := Lib.hid (HB3.out.trans (hb.mono HB3.out.size))
    have HZ4 := Lib.hid ((HZ3.out.next hb HZ3.out.lt).alloc (.cells #[.int .i64 D.e, .int .i64 D.a, .int .i64 D.k, .int .i64 D.m, .string D.s, .int .i64 D.t, .bool D.add, .int .i64 D.fr, .int .i64 D.til] 36))
    have HB4' := Lib.hid (HB4.out.alloc HB4.out.size (.cells #[.int .i64 D.e, .int .i64 D.a, .int .i64 D.k, .int .i64 D.m, .string D.s, .int .i64 D.t, .bool D.add, .int .i64 D.fr, .int .i64 D.til] 36))
    have HD4 := Lib.hid (datAt_new w4 D)
    clear hb p0 p1 p2
    cases ok
    · have HN := Lib.hid (HRF.out rfl)
      have HZX := HZ4
      have c0 := HZX.out.c0
      have c1 := HZX.out.c1
      have c2 := HZX.out.c2
      have c3 := HZX.out.c3
      have c4 := HZX.out.c4
      have c5 := HZX.out.c5
      have c6 := HZX.out.c6
      have c7 := HZX.out.c7
      have c8 := HZX.out.c8
      have f0 := HZX.out.fz 0
      have f1 := HZX.out.fz 1
      have f2 := HZX.out.fz 2
      have f3 := HZX.out.fz 3
      have f4 := HZX.out.fz 4
      have f5 := HZX.out.fz 5
      have f6 := HZX.out.fz 6
      have f7 := HZX.out.fz 7
      have f8 := HZX.out.fz 8
      have HDN := Lib.hid (HZX.out.set9 zeroD)
      clear HZX
      go_wp2
      have e0 := HDN.out.c0
      have e1 := HDN.out.c1
      have e2 := HDN.out.c2
      have e3 := HDN.out.c3
      have e4 := HDN.out.c4
      have e5 := HDN.out.c5
      have e6 := HDN.out.c6
      have e7 := HDN.out.c7
      have e8 := HDN.out.c8
      simp only [zeroD] at e0 e1 e2 e3 e4 e5 e6 e7 e8
      refine bodyPost_ret (v := .tuple #[dV zeroD, .int .i64 40]) ?_ rfl (dReadEnd_no rfl HN.out (HB4'.out.trans (below_set9 (Nat.le_refl _) _ _ _ _ _ _ _ _ _)))
      rw [results_cell_tmp rfl]
      unfold dV zeroD
      go_simp
    go_wp2_with fail
    refine (HMY.out _).mono ?_
    rintro e w5 ⟨rfl, hb⟩
    have HB5 := Lib.hid (HB4'.out.trans (hb.mono HB4'.out.size))
    have HZ5 := Lib.hid (HZ4.out.next hb HZ4.out.lt)
    have HD5 := Lib.hid (HD4.out.next hb HD4.out.lt)
    clear hb
    cases b1
    · have HN := Lib.hid (HRF.out rfl)
      have HZX := HZ5
      have c0 := HZX.out.c0
      have c1 := HZX.out.c1
      have c2 := HZX.out.c2
      have c3 := HZX.out.c3
      have c4 := HZX.out.c4
      have c5 := HZX.out.c5
      have c6 := HZX.out.c6
      have c7 := HZX.out.c7
      have c8 := HZX.out.c8
      have f0 := HZX.out.fz 0
      have f1 := HZX.out.fz 1
      have f2 := HZX.out.fz 2
      have f3 := HZX.out.fz 3
      have f4 := HZX.out.fz 4
      have f5 := HZX.out.fz 5
      have f6 := HZX.out.fz 6
      have f7 := HZX.out.fz 7
      have f8 := HZX.out.fz 8
      have HDN := Lib.hid (HZX.out.set9 zeroD)
      clear HZX
      go_wp2
      have e0 := HDN.out.c0
      have e1 := HDN.out.c1
      have e2 := HDN.out.c2
      have e3 := HDN.out.c3
      have e4 := HDN.out.c4
      have e5 := HDN.out.c5
      have e6 := HDN.out.c6
      have e7 := HDN.out.c7
      have e8 := HDN.out.c8
      simp only [zeroD] at e0 e1 e2 e3 e4 e5 e6 e7 e8
      refine bodyPost_ret (v := .tuple #[dV zeroD, .int .i64 40]) ?_ rfl (dReadEnd_no rfl HN.out (HB5.out.trans (below_set9 (Nat.le_refl _) _ _ _ _ _ _ _ _ _)))
      rw [results_cell_tmp rfl]
      unfold dV zeroD
      go_simp
    have d0 := HD5.out.c0
    have d1 := HD5.out.c1
    have d2 := HD5.out.c2
    have d3 := HD5.out.c3
    have d4 := HD5.out.c4
    have d5 := HD5.out.c5
    have d6 := HD5.out.c6
    have d7 := HD5.out.c7
    have d8 := HD5.out.c8
    go_wp2_with fail
    refine (HHS.out _).mono ?_
    rintro e w6 ⟨rfl, hb⟩
    have HB6 := Lib.hid (HB5.out.trans (hb.mono HB5.out.size))
    have HZ6 := Lib.hid (HZ5.out.next hb HZ5.out.lt)
    have HD6 := Lib.hid (HD5.out.next hb HD5.out.lt)
    clear hb d0 d1 d2 d3 d4 d5 d6 d7 d8
    cases b2
    · have HN := Lib.hid (HRF.out rfl)
      have HZX := HZ6
      have c0 := HZX.out.c0
      have c1 := HZX.out.c1
      have c2 := HZX.out.c2
      have c3 := HZX.out.c3
      have c4 := HZX.out.c4
      have c5 := HZX.out.c5
      have c6 := HZX.out.c6
      have c7 := HZX.out.c7
      have c8 := HZX.out.c8
      have f0 := HZX.out.fz 0
      have f1 := HZX.out.fz 1
      have f2 := HZX.out.fz 2
      have f3 := HZX.out.fz 3
      have f4 := HZX.out.fz 4
      have f5 := HZX.out.fz 5
      have f6 := HZX.out.fz 6
      have f7 := HZX.out.fz 7
      have f8 := HZX.out.fz 8
      have HDN := Lib.hid (HZX.out.set9 zeroD)
      clear HZX
      go_wp2
      have e0 := HDN.out.c0
      have e1 := HDN.out.c1
      have e2 := HDN.out.c2
      have e3 := HDN.out.c3
      have e4 := HDN.out.c4
      have e5 := HDN.out.c5
      have e6 := HDN.out.c6
      have e7 := HDN.out.c7
      have e8 := HDN.out.c8
      simp only [zeroD] at e0 e1 e2 e3 e4 e5 e6 e7 e8
      refine bodyPost_ret (v := .tuple #[dV zeroD, .int .i64 40]) ?_ rfl (dReadEnd_no rfl HN.out (HB6.out.trans (below_set9 (Nat.le_refl _) _ _ _ _ _ _ _ _ _)))
      rw [results_cell_tmp rfl]
      unfold dV zeroD
      go_simp
    have HY := Lib.hid (HRT.out rfl)
    have d0 := HD6.out.c0
    have d1 := HD6.out.c1
    have d2 := HD6.out.c2
    have d3 := HD6.out.c3
    have d4 := HD6.out.c4
    have d5 := HD6.out.c5
    have d6 := HD6.out.c6
    have d7 := HD6.out.c7
    have d8 := HD6.out.c8
    have HZX := HZ6
    have c0 := HZX.out.c0
    have c1 := HZX.out.c1
    have c2 := HZX.out.c2
    have c3 := HZX.out.c3
    have c4 := HZX.out.c4
    have c5 := HZX.out.c5
    have c6 := HZX.out.c6
    have c7 := HZX.out.c7
    have c8 := HZX.out.c8
    have f0 := HZX.out.fz 0
    have f1 := HZX.out.fz 1
    have f2 := HZX.out.fz 2
    have f3 := HZX.out.fz 3
    have f4 := HZX.out.fz 4
    have f5 := HZX.out.fz 5
    have f6 := HZX.out.fz 6
    have f7 := HZX.out.fz 7
    have f8 := HZX.out.fz 8
    have HDN := Lib.hid (HZX.out.set9 D)
    clear HZX
    go_wp2
    have e0 := HDN.out.c0
    have e1 := HDN.out.c1
    have e2 := HDN.out.c2
    have e3 := HDN.out.c3
    have e4 := HDN.out.c4
    have e5 := HDN.out.c5
    have e6 := HDN.out.c6
    have e7 := HDN.out.c7
    have e8 := HDN.out.c8
    refine bodyPost_ret (v := .tuple #[dV D, .int .i64 0]) ?_ rfl (dReadEnd_yes rfl HY.out (HB6.out.trans (below_set9 (Nat.le_refl _) _ _ _ _ _ _ _ _ _)))
    rw [results_cell_tmp rfl]
    unfold dV
    go_simp

set_option maxRecDepth 100000 in
set_option maxHeartbeats 2000000 in
theorem readD_noO (o : Int) (ho : isO o = false) (A : Option Addr) (c : Nat) (b : List UInt8) (w : World) : Calls Try.prog 20 #[.int .i64 o, .slice A b.length c] w (DReadEnd w o b) := by
  have HO := Lib.hid ho
  have h9 := fun X => placesOf_any o X
  have e0 : plcV o = .agg #[.int .i64 (0 : Int), .int .i64 (0 : Int), .int .i64 (0 : Int)] := by
    unfold plcV
    have := noO ho
    rw [if_neg (by omega), if_neg (by omega), if_neg (by omega), if_neg (by omega)]
  rw [ho, e0] at h9
  have HP := Lib.hid h9
  obtain ⟨w0, hw0⟩ : ∃ w0, w.alloc (.cells #[.int .i64 0, .int .i64 0, .int .i64 0, .int .i64 0, .string ⟨#[]⟩, .int .i64 0, .bool false, .int .i64 0, .int .i64 0] 36) = w0 := ⟨_, rfl⟩
  have HZ0 : Hid (DatAt w0 w.heap.size zeroD) := by rw [← hw0]; exact datAt_new w zeroD
  have HB0 : Hid (Below w.heap.size w w0) := by rw [← hw0]; exact (Below.refl _ _).alloc (Nat.le_refl _) _
  have HW0 := Lib.hid hw0
  clear hw0 ho h9 e0
  go_enter Try.func20, Try.ntmps20
  go_upto_region 1 with (fail)
  rw [HW0.out]
  go_wp2_with fail
  refine (HP.out _).mono ?_
  rintro e w1 ⟨rfl, hb⟩
  have HB1 := Lib.hid ((HB0.out.trans (hb.mono HB0.out.size)).alloc (by have := HB0.out.size; have := hb.size; omega) (.cells #[.int .i64 0, .int .i64 0, .int .i64 0] 59))
  have HZX := Lib.hid ((HZ0.out.next hb HZ0.out.lt).alloc (.cells #[.int .i64 0, .int .i64 0, .int .i64 0] 59))
  clear hb
  have c0 := HZX.out.c0
  have c1 := HZX.out.c1
  have c2 := HZX.out.c2
  have c3 := HZX.out.c3
  have c4 := HZX.out.c4
  have c5 := HZX.out.c5
  have c6 := HZX.out.c6
  have c7 := HZX.out.c7
  have c8 := HZX.out.c8
  have f0 := HZX.out.fz 0
  have f1 := HZX.out.fz 1
  have f2 := HZX.out.fz 2
  have f3 := HZX.out.fz 3
  have f4 := HZX.out.fz 4
  have f5 := HZX.out.fz 5
  have f6 := HZX.out.fz 6
  have f7 := HZX.out.fz 7
  have f8 := HZX.out.fz 8
  have HDN := Lib.hid (HZX.out.set9 zeroD)
  clear HZX
  go_wp2
  have e0 := HDN.out.c0
  have e1 := HDN.out.c1
  have e2 := HDN.out.c2
  have e3 := HDN.out.c3
  have e4 := HDN.out.c4
  have e5 := HDN.out.c5
  have e6 := HDN.out.c6
  have e7 := HDN.out.c7
  have e8 := HDN.out.c8
  simp only [zeroD] at e0 e1 e2 e3 e4 e5 e6 e7 e8
  refine bodyPost_ret (v := .tuple #[dV zeroD, .int .i64 2]) ?_ rfl (⟨.inl ⟨HO.out, rfl⟩, HB1.out.trans (below_set9 (Nat.le_refl _) _ _ _ _ _ _ _ _ _)⟩)
  rw [results_cell_tmp rfl]
  unfold dV zeroD
  go_simp
/-- Read, as the document has it. -/
theorem dRead_any (o : Int) (A : Option Addr) (c : Nat) (b : List UInt8) (w : World) (hs : SlB w w.heap.size A b) (hl : b.length ≤ 9000) (hlc : b.length ≤ c) (hc : c ≤ maxLen) :
    Calls Try.prog 20 #[.int .i64 o, .slice A b.length c] w (DReadEnd w o b) := by
  cases ho : isO o
  · exact readD_noO o ho A c b w
  · rcases isO_cases ho with rfl | rfl | rfl | rfl
    · exact readD_1 A c b w hs hl hlc hc
    · exact readD_2 A c b w hs hl hlc hc
    · exact readD_3 A c b w hs hl hlc hc
    · exact readD_4 A c b w hs hl hlc hc

end Go.Proofs.Ytkoknogefmfmnaa

/-
  CONTRACT of the document's own answer over datoms: Read.
-/
namespace Go.Proofs.Ytkoknogefmfmnaa
open Go.RowKit

theorem str_eq {l r : List UInt8} (h : l = r) : (ByteArray.mk l.toArray) = ⟨r.toArray⟩ := by rw [h]
theorem mem_cost {l : List PartP} {p : PartP} (h : p ∈ l) : p.s.size ≤ costP l := by have := costP_mem h; omega

theorem DatAt.setE {W : World} {b : Nat} {d : Dat} (h : DatAt W b d) (x : Int) : DatAt (W.setCell ⟨b, 0, none⟩ (.int .i64 x)) b { d with e := x } := (heap_setCell_same _ _ _ _ _ _ h).trans (by simp)
theorem DatAt.setA {W : World} {b : Nat} {d : Dat} (h : DatAt W b d) (x : Int) : DatAt (W.setCell ⟨b, 1, none⟩ (.int .i64 x)) b { d with a := x } := (heap_setCell_same _ _ _ _ _ _ h).trans (by simp)
theorem DatAt.setV {W : World} {b : Nat} {d : Dat} (h : DatAt W b d) (k m : Int) (s : ByteArray) : DatAt (((W.setCell ⟨b, 2, none⟩ (.int .i64 k)).setCell ⟨b, 3, none⟩ (.int .i64 m)).setCell ⟨b, 4, none⟩ (.string s)) b { d with k := k, m := m, s := s } := (heap_setCell_same _ _ _ _ _ _ (heap_setCell_same _ _ _ _ _ _ (heap_setCell_same _ _ _ _ _ _ h))).trans (by simp)
def RS (b o : Nat) (n3 n4 n5 n6 : Int) (W : World) : Prop := W.cell? ⟨b, o + 15 + 1, none⟩ = some (.int .i64 n3) ∧ W.cell? ⟨b, o + 20 + 1, none⟩ = some (.int .i64 n4) ∧ W.cell? ⟨b, o + 25 + 1, none⟩ = some (.int .i64 n5) ∧ W.cell? ⟨b, o + 30 + 1, none⟩ = some (.int .i64 n6)
theorem RS.next {b o B : Nat} {n3 n4 n5 n6 : Int} {W W' : World} (h : RS b o n3 n4 n5 n6 W) (hb : Below B W W') (h1 : b < B) : RS b o n3 n4 n5 n6 W' :=
  have k : ∀ j, W'.cell? ⟨b, j, none⟩ = W.cell? ⟨b, j, none⟩ := fun j => hb.cell (p := ⟨b, j, none⟩) h1
  ⟨(k _).trans h.1, (k _).trans h.2.1, (k _).trans h.2.2.1, (k _).trans h.2.2.2⟩
def pAt (l : List PartP) (j : Nat) : PartP := (l[j]?).getD (numP 0)
def startD (l : List PartP) : Dat := ⟨0, 0, 0, 0, ⟨#[]⟩, (pAt l 3).n, decide ((pAt l 4).n = 0), (pAt l 5).n, (pAt l 6).n⟩
def kcells (k : Int) (j : Nat) : Array Value := ((List.range 7).map fun i => Value.bool (decide (i < j) && decide (i = plV k))).toArray
theorem datOk_of {o : Int} {l : List PartP} (_ho : isO o = true) (hl : l.length = 7) (hv : l.map (·.v) = kindsD o) (hm : l.all partMay = true) (hk : ∀ p ∈ l, partOk p) : DatOk (datL o l) := by
  have hg : ∀ j, j < 7 → partOk ((l[j]?).getD (numP 0)) := fun j hj => by
    rw [List.getElem?_eq_getElem (by omega)]
    exact hk _ (List.getElem_mem _)
  have hE : plE o < 7 := by unfold plE; split; · omega
                            split <;> omega
  have hA : plA o < 7 := by unfold plA; split <;> omega
  have hV : plV o < 7 := by unfold plV; split; · omega
                            split <;> omega
  have hK : i64B (datL o l).k := by
    have h1 : (l.map (·.v))[plV o]? = some true := by
      rw [hv]
      unfold kindsD
      rw [List.getElem?_map, List.getElem?_range hV]
      simp
    rw [List.getElem?_map] at h1
    obtain ⟨p, hp, hpv⟩ := Option.map_eq_some_iff.1 h1
    have h2 := List.all_eq_true.1 hm p (List.mem_of_getElem? hp)
    unfold partMay at h2
    rw [hpv] at h2
    have h3 := mayB_kind (show mayB p.k p.m p.s = true from h2)
    show i64B ((l[plV o]?).getD (numP 0)).k
    rw [hp]
    show i64B p.k
    unfold i64B
    omega
  exact ⟨(hg _ hE).1, (hg _ hA).1, hK, (hg _ hV).2, (hg 3 (by omega)).1, (hg 5 (by omega)).1, (hg 6 (by omega)).1⟩

end Go.Proofs.Ytkoknogefmfmnaa

/-
  CONTRACT of the document's own answer over datoms: Read, in order 1.
-/
namespace Go.Proofs.Ytkoknogefmfmnaa
open Go.RowKit

def st1 (ps : List PartP) : Nat → Dat
  | 0 => (startD ps)
  | 1 => ({ startD ps with e := (pAt ps 0).n } : Dat)
  | 2 => ({ startD ps with e := (pAt ps 0).n, a := (pAt ps 1).n } : Dat)
  | _ => ({ startD ps with e := (pAt ps 0).n, a := (pAt ps 1).n, k := (pAt ps 2).k, m := (pAt ps 2).m, s := (pAt ps 2).s } : Dat)
end Go.Proofs.Ytkoknogefmfmnaa

/-
  CONTRACT of the document's own answer over datoms: Read, in order 2.
-/
namespace Go.Proofs.Ytkoknogefmfmnaa
open Go.RowKit

def st2 (ps : List PartP) : Nat → Dat
  | 0 => (startD ps)
  | 1 => ({ startD ps with a := (pAt ps 0).n } : Dat)
  | 2 => ({ startD ps with a := (pAt ps 0).n, e := (pAt ps 1).n } : Dat)
  | _ => ({ startD ps with a := (pAt ps 0).n, e := (pAt ps 1).n, k := (pAt ps 2).k, m := (pAt ps 2).m, s := (pAt ps 2).s } : Dat)
end Go.Proofs.Ytkoknogefmfmnaa

/-
  CONTRACT of the document's own answer over datoms: Read, in order 3.
-/
namespace Go.Proofs.Ytkoknogefmfmnaa
open Go.RowKit

def st3 (ps : List PartP) : Nat → Dat
  | 0 => (startD ps)
  | 1 => ({ startD ps with a := (pAt ps 0).n } : Dat)
  | 2 => ({ startD ps with a := (pAt ps 0).n, k := (pAt ps 1).k, m := (pAt ps 1).m, s := (pAt ps 1).s } : Dat)
  | _ => ({ startD ps with a := (pAt ps 0).n, k := (pAt ps 1).k, m := (pAt ps 1).m, s := (pAt ps 1).s, e := (pAt ps 2).n } : Dat)
end Go.Proofs.Ytkoknogefmfmnaa
