import Derived.Test.YtefekkcmoambhaaJDRefR0
import Derived.Test.YtefekkcmoambhaaJDRefR1
import Derived.Test.YtefekkcmoambhaaJDRefR2
import Derived.Test.YtefekkcmoambhaaJDRefR3
/-
  CONTRACT of the document's own answer over datoms: Read, in order 4.
-/
namespace Go.Proofs.Ytefekkcmoambhaa
open Go.RowKit

def st4 (ps : List PartP) : Nat → Dat
  | 0 => (startD ps)
  | 1 => ({ startD ps with k := (pAt ps 0).k, m := (pAt ps 0).m, s := (pAt ps 0).s } : Dat)
  | 2 => ({ startD ps with k := (pAt ps 0).k, m := (pAt ps 0).m, s := (pAt ps 0).s, a := (pAt ps 1).n } : Dat)
  | _ => ({ startD ps with k := (pAt ps 0).k, m := (pAt ps 0).m, s := (pAt ps 0).s, a := (pAt ps 1).n, e := (pAt ps 2).n } : Dat)
set_option maxRecDepth 100000 in
set_option maxHeartbeats 1000000 in
theorem refReadD_4 (A : Option Addr) (c : Nat) (b : List UInt8) (w : World) (hs : SlB w w.heap.size A b) (hl : b.length ≤ 3000) (hlc : b.length ≤ c) (hc : c ≤ maxLen) :
    Calls Try.prog 33 #[.int .i64 4, .slice A b.length c] w (DReadEnd w 4 b) := by
  have hmx : 50000 ≤ maxLen := by decide
  have HS := Lib.hid hs
  have HLC := Lib.hid (And.intro hlc hc)
  obtain ⟨w0, hw0⟩ : ∃ w0, w.alloc (.cells #[.int .i64 0, .int .i64 0, .int .i64 0, .int .i64 0, .string ⟨#[]⟩, .int .i64 0, .bool false, .int .i64 0, .int .i64 0] 42) = w0 := ⟨_, rfl⟩
  have HZ0 : Hid (DatAt w0 w.heap.size zeroD) := by rw [← hw0]; exact datAt_new w zeroD
  have HB0 : Hid (Below w.heap.size w w0) := by rw [← hw0]; exact (Below.refl _ _).alloc (Nat.le_refl _) _
  have HW0 := Lib.hid hw0
  have hmk : ∀ X : World, (Instr.makeSlice 110 (.int .i64 7) (.int .i64 7)).run Try.prog X = .ok (.slice (some ⟨X.heap.size, 0, none⟩) 7 7) (X.alloc (.cells #[.bool false, .bool false, .bool false, .bool false, .bool false, .bool false, .bool false] 4)) := fun _ => by kernel_rfl
  clear hw0 hs hlc hc
  go_enter Try.func33, Try.ntmps33
  go_upto_region 1 with (fail)
  rw [HW0.out]
  go_wp2_with fail
  refine (shape_4 _).mono ?_
  rintro e w1 ⟨rfl, rfl⟩
  go_wp2_with fail
  clear hmk
  go_loopg [8] 3 (fun g z wr => ∃ j : Nat, z = .int .i64 j ∧ j + g = 3 ∧ Hid (wr = w0.alloc (.cells (kcells 4 j) 4)))
  case atStart => exact ⟨0, rfl, by omega, by show _ = _; rfl⟩
  case round =>
    obtain ⟨j, rfl, hj, HW⟩ := hrel
    rcases (by omega : j = 0 ∨ j = 1 ∨ j = 2 ∨ j = 3) with rfl | rfl | rfl | rfl
    · obtain rfl : gk = 3 := by omega
      have hk : kcells 4 0 = #[.bool false, .bool false, .bool false, .bool false, .bool false, .bool false, .bool false] := rfl
      have hw := HW.out
      rw [hk] at hw
      subst hw
      clear HW hk
      go_wp2
      go_roundg 2
      case measure => omega
      case rel => exact ⟨1, rfl, by omega, by show _ = _; rfl⟩
    · obtain rfl : gk = 2 := by omega
      have hk : kcells 4 1 = #[.bool true, .bool false, .bool false, .bool false, .bool false, .bool false, .bool false] := rfl
      have hw := HW.out
      rw [hk] at hw
      subst hw
      clear HW hk
      go_wp2
      go_roundg 1
      case measure => omega
      case rel => exact ⟨2, rfl, by omega, by show _ = _; rfl⟩
    · obtain rfl : gk = 1 := by omega
      have hk : kcells 4 2 = #[.bool true, .bool false, .bool false, .bool false, .bool false, .bool false, .bool false] := rfl
      have hw := HW.out
      rw [hk] at hw
      subst hw
      clear HW hk
      go_wp2
      go_roundg 0
      case measure => omega
      case rel => exact ⟨3, rfl, by omega, by show _ = _; rfl⟩
    · obtain rfl : gk = 0 := by omega
      have hk : kcells 4 3 = #[.bool true, .bool false, .bool false, .bool false, .bool false, .bool false, .bool false] := rfl
      have hw := HW.out
      rw [hk] at hw
      have hsk : SlK wr wr.heap.size (some ⟨w0.heap.size, 0, none⟩) (kindsD 4) := by
        rw [hw, World.size_alloc]
        exact slK_lit (ks := kindsD 4) rfl
      have HB1 : Hid (Below w.heap.size w wr) := by rw [hw]; exact HB0.out.alloc HB0.out.size _
      have HZ1 : Hid (DatAt wr w.heap.size zeroD) := by rw [hw]; exact HZ0.out.alloc _
      have hread := refRead_any A (some ⟨w0.heap.size, 0, none⟩) c 7 b (kindsD 4) wr ((HS.out.next HB1.out (Nat.le_refl _)).more HB1.out.size) hsk (by omega) (by rw [kindsD_len]; omega) HLC.out.1 HLC.out.2
      rw [kindsD_len] at hread
      have HREAD := Lib.hid hread
      clear HW hk hw hsk hread
      go_wp2_with fail
      refine HREAD.out.mono ?_
      rintro e w3 ⟨⟨ps, pv, hr, rfl, hop⟩ | ⟨hr, rfl⟩, hb⟩
      rotate_left
      · have HB3 := Lib.hid (HB1.out.trans (hb.mono HB1.out.size))
        have HZX := Lib.hid (HZ1.out.next hb HZ1.out.lt)
        have HN := Lib.hid (readD_no (o := 4) hr)
        clear hb hr
        have c0 := HZX.out.c0
        have c1 := HZX.out.c1
        have c2 := HZX.out.c2
        have c3 := HZX.out.c3
        have c4 := HZX.out.c4
        have c5 := HZX.out.c5
        have c6 := HZX.out.c6
        have c7 := HZX.out.c7
        have c8 := HZX.out.c8
        have f0 := HZX.out.fz 0
        have f1 := HZX.out.fz 1
        have f2 := HZX.out.fz 2
        have f3 := HZX.out.fz 3
        have f4 := HZX.out.fz 4
        have f5 := HZX.out.fz 5
        have f6 := HZX.out.fz 6
        have f7 := HZX.out.fz 7
        have f8 := HZX.out.fz 8
        have HDN := Lib.hid (HZX.out.set9 zeroD)
        clear HZX
        go_wp2
        have e0 := HDN.out.c0
        have e1 := HDN.out.c1
        have e2 := HDN.out.c2
        have e3 := HDN.out.c3
        have e4 := HDN.out.c4
        have e5 := HDN.out.c5
        have e6 := HDN.out.c6
        have e7 := HDN.out.c7
        have e8 := HDN.out.c8
        simp only [zeroD] at e0 e1 e2 e3 e4 e5 e6 e7 e8
        refine bodyPost_ret (v := .tuple #[dV zeroD, .int .i64 40]) ?_ rfl (dReadEnd_no rfl HN.out (HB3.out.trans (below_set9 (Nat.le_refl _) _ _ _ _ _ _ _ _ _)))
        rw [results_cell_tmp rfl]
        unfold dV zeroD
        go_simp
      obtain ⟨A3, c3, rfl, hs3⟩ := hop.slp
      have hps : ps.length = 7 := by rw [← List.length_map (f := (·.v)), (readL_form hr).1, kindsD_len]
      obtain ⟨b3, o3, rfl, hbl, hp⟩ := hs3 (by intro e; rw [e] at hps; cases hps)
      have HB3 := Lib.hid (HB1.out.trans (hb.mono HB1.out.size))
      have HZ3 := Lib.hid (HZ1.out.next hb HZ1.out.lt)
      obtain ⟨hk1, hk2, hk3, hk4⟩ := key_read hr
      have HOK := Lib.hid (datOk_of (o := 4) rfl hps (readL_form hr).1 hk2 hk3)
      have HSZ : Hid ((datL 4 ps).s.size ≤ 3100) := Nat.le_trans (datL_size (B := costP ps) (fun p hp => mem_cost hp)) (by rw [kindsD_len] at hk4; omega)
      have HIS := Lib.hid (readD_is (o := 4) rfl hr)
      have HRF := Lib.hid (fun h => readD_false (o := 4) hr h)
      have HRT := Lib.hid (fun h => readD_true (o := 4) hr h)
      have HP : Hid (∀ j, j < 7 → PartAt w3 b3 (o3 + j * 5) (pAt ps j)) := fun j hj => SlP.get hp j (by omega)
      have t3 : w3.cell? ⟨b3, o3 + 15 + 1, none⟩ = _ := (HP.out 3 (by omega)).c1
      have t4 : w3.cell? ⟨b3, o3 + 20 + 1, none⟩ = _ := (HP.out 4 (by omega)).c1
      have t5 : w3.cell? ⟨b3, o3 + 25 + 1, none⟩ = _ := (HP.out 5 (by omega)).c1
      have t6 : w3.cell? ⟨b3, o3 + 30 + 1, none⟩ = _ := (HP.out 6 (by omega)).c1
      obtain ⟨aq, haq⟩ : ∃ aq, ((pAt ps 4).n == 0) = aq := ⟨_, rfl⟩
      have HAQ : Hid (decide ((pAt ps 4).n = 0) = aq) := by show _ = _; rw [← haq]; rfl
      rw [hps]
      clear hb hop hs3 hp hk1 hk2 hk3 hk4 hr
      go_wp2_with fail
      have HRS : Hid (RS b3 o3 (pAt ps 3).n (pAt ps 4).n (pAt ps 5).n (pAt ps 6).n w3.drew) := ⟨t3, t4, t5, t6⟩
      obtain ⟨wd, hwd⟩ : ∃ wd, w3.drew = wd := ⟨_, rfl⟩
      have HBD : Hid (Below w3.heap.size w3 wd) := by rw [← hwd]; exact (Below.refl _ _).drew
      rw [hwd] at HRS
      clear t3 t4 t5 t6
      refine wp_region_held_drew (S := RS b3 o3 (pAt ps 3).n (pAt ps 4).n (pAt ps 5).n (pAt ps 6).n) (by kernel_rfl) (by rw [hwd]; exact HRS.out) (fun hHeld => ?_)
      rw [hwd] at hHeld ⊢
      clear hwd
      refine takeV 0 (some 45) ((.slice (some ⟨b3, o3, none⟩) 7 c3)) rfl rfl (by kernel_rfl) (by kernel_rfl) (by kernel_rfl) (fun _ _ _ h => h) (by rfl) (by (intro _w _hSw; (try dsimp only at _hSw); go_simp)) (by assumption) ?_
      simp only [Act.put, List.setIfInBounds_toArray, List.set_cons_zero, List.set_cons_succ]
      refine takeV 1 (some 46) ((.pointer (some ⟨b3, o3 + 15, none⟩))) rfl rfl (by kernel_rfl) (by kernel_rfl) (by kernel_rfl) (fun _ _ _ h => h) (by rfl) (by (intro _w _hSw; (try dsimp only at _hSw); go_simp)) (by assumption) ?_
      simp only [Act.put, List.setIfInBounds_toArray, List.set_cons_zero, List.set_cons_succ]
      refine takeV 2 (some 47) ((.pointer (some ⟨b3, o3 + 15 + 1, none⟩))) rfl rfl (by kernel_rfl) (by kernel_rfl) (by kernel_rfl) (fun _ _ _ h => h) (by rfl) (by (intro _w _hSw; (try dsimp only at _hSw); go_simp)) (by assumption) ?_
      simp only [Act.put, List.setIfInBounds_toArray, List.set_cons_zero, List.set_cons_succ]
      refine takeV 3 (some 48) ((.int .i64 (pAt ps 3).n)) rfl rfl (by kernel_rfl) (by kernel_rfl) (by kernel_rfl) (fun _ _ _ h => h) (by rfl) (by (intro _w hSw; have q := hSw.1; clear hSw; go_simp)) (by assumption) ?_
      simp only [Act.put, List.setIfInBounds_toArray, List.set_cons_zero, List.set_cons_succ]
      refine takeV 4 (some 49) ((.slice (some ⟨b3, o3, none⟩) 7 c3)) rfl rfl (by kernel_rfl) (by kernel_rfl) (by kernel_rfl) (fun _ _ _ h => h) (by rfl) (by (intro _w _hSw; (try dsimp only at _hSw); go_simp)) (by assumption) ?_
      simp only [Act.put, List.setIfInBounds_toArray, List.set_cons_zero, List.set_cons_succ]
      refine takeV 5 (some 50) ((.pointer (some ⟨b3, o3 + 20, none⟩))) rfl rfl (by kernel_rfl) (by kernel_rfl) (by kernel_rfl) (fun _ _ _ h => h) (by rfl) (by (intro _w _hSw; (try dsimp only at _hSw); go_simp)) (by assumption) ?_
      simp only [Act.put, List.setIfInBounds_toArray, List.set_cons_zero, List.set_cons_succ]
      refine takeV 6 (some 51) ((.pointer (some ⟨b3, o3 + 20 + 1, none⟩))) rfl rfl (by kernel_rfl) (by kernel_rfl) (by kernel_rfl) (fun _ _ _ h => h) (by rfl) (by (intro _w _hSw; (try dsimp only at _hSw); go_simp)) (by assumption) ?_
      simp only [Act.put, List.setIfInBounds_toArray, List.set_cons_zero, List.set_cons_succ]
      refine takeV 7 (some 52) ((.int .i64 (pAt ps 4).n)) rfl rfl (by kernel_rfl) (by kernel_rfl) (by kernel_rfl) (fun _ _ _ h => h) (by rfl) (by (intro _w hSw; have q := hSw.2.1; clear hSw; go_simp)) (by assumption) ?_
      simp only [Act.put, List.setIfInBounds_toArray, List.set_cons_zero, List.set_cons_succ]
      refine takeV 8 (some 53) ((.bool aq)) rfl rfl (by kernel_rfl) (by kernel_rfl) (by kernel_rfl) (fun _ _ _ h => h) (by rfl) (by (intro _w _hSw; (try dsimp only at _hSw); go_simp)) (by assumption) ?_
      simp only [Act.put, List.setIfInBounds_toArray, List.set_cons_zero, List.set_cons_succ]
      refine takeV 9 (some 54) ((.slice (some ⟨b3, o3, none⟩) 7 c3)) rfl rfl (by kernel_rfl) (by kernel_rfl) (by kernel_rfl) (fun _ _ _ h => h) (by rfl) (by (intro _w _hSw; (try dsimp only at _hSw); go_simp)) (by assumption) ?_
      simp only [Act.put, List.setIfInBounds_toArray, List.set_cons_zero, List.set_cons_succ]
      refine takeV 10 (some 55) ((.pointer (some ⟨b3, o3 + 25, none⟩))) rfl rfl (by kernel_rfl) (by kernel_rfl) (by kernel_rfl) (fun _ _ _ h => h) (by rfl) (by (intro _w _hSw; (try dsimp only at _hSw); go_simp)) (by assumption) ?_
      simp only [Act.put, List.setIfInBounds_toArray, List.set_cons_zero, List.set_cons_succ]
      refine takeV 11 (some 56) ((.pointer (some ⟨b3, o3 + 25 + 1, none⟩))) rfl rfl (by kernel_rfl) (by kernel_rfl) (by kernel_rfl) (fun _ _ _ h => h) (by rfl) (by (intro _w _hSw; (try dsimp only at _hSw); go_simp)) (by assumption) ?_
      simp only [Act.put, List.setIfInBounds_toArray, List.set_cons_zero, List.set_cons_succ]
      refine takeV 12 (some 57) ((.int .i64 (pAt ps 5).n)) rfl rfl (by kernel_rfl) (by kernel_rfl) (by kernel_rfl) (fun _ _ _ h => h) (by rfl) (by (intro _w hSw; have q := hSw.2.2.1; clear hSw; go_simp)) (by assumption) ?_
      simp only [Act.put, List.setIfInBounds_toArray, List.set_cons_zero, List.set_cons_succ]
      refine takeV 13 (some 58) ((.slice (some ⟨b3, o3, none⟩) 7 c3)) rfl rfl (by kernel_rfl) (by kernel_rfl) (by kernel_rfl) (fun _ _ _ h => h) (by rfl) (by (intro _w _hSw; (try dsimp only at _hSw); go_simp)) (by assumption) ?_
      simp only [Act.put, List.setIfInBounds_toArray, List.set_cons_zero, List.set_cons_succ]
      refine takeV 14 (some 59) ((.pointer (some ⟨b3, o3 + 30, none⟩))) rfl rfl (by kernel_rfl) (by kernel_rfl) (by kernel_rfl) (fun _ _ _ h => h) (by rfl) (by (intro _w _hSw; (try dsimp only at _hSw); go_simp)) (by assumption) ?_
      simp only [Act.put, List.setIfInBounds_toArray, List.set_cons_zero, List.set_cons_succ]
      refine takeV 15 (some 60) ((.pointer (some ⟨b3, o3 + 30 + 1, none⟩))) rfl rfl (by kernel_rfl) (by kernel_rfl) (by kernel_rfl) (fun _ _ _ h => h) (by rfl) (by (intro _w _hSw; (try dsimp only at _hSw); go_simp)) (by assumption) ?_
      simp only [Act.put, List.setIfInBounds_toArray, List.set_cons_zero, List.set_cons_succ]
      refine takeV 16 (some 61) ((.int .i64 (pAt ps 6).n)) rfl rfl (by kernel_rfl) (by kernel_rfl) (by kernel_rfl) (fun _ _ _ h => h) (by rfl) (by (intro _w hSw; have q := hSw.2.2.2; clear hSw; go_simp)) (by assumption) ?_
      simp only [Act.put, List.setIfInBounds_toArray, List.set_cons_zero, List.set_cons_succ]
      refine takeV 17 (some 62) ((.agg #[.int .i64 0, .int .i64 0, .int .i64 0, .int .i64 0, .string ⟨#[]⟩, .int .i64 (pAt ps 3).n, .bool aq, .int .i64 (pAt ps 5).n, .int .i64 (pAt ps 6).n])) rfl rfl (by kernel_rfl) (by kernel_rfl) (by kernel_rfl) (fun _ _ _ h => h) (by rfl) (by (intro _w _hSw; (try dsimp only at _hSw); go_simp)) (by assumption) ?_
      simp only [Act.put, List.setIfInBounds_toArray, List.set_cons_zero, List.set_cons_succ]
      refine callV 18 rfl (by kernel_rfl) (by rfl) (fun K hK => ?_)
      go_simp
      refine hK.out _ _ (RS.next (W := wd) (W' := wd.alloc (.cells #[.int .i64 0, .int .i64 0, .int .i64 0, .int .i64 0, .string ⟨#[]⟩, .int .i64 0, .bool false, .int .i64 0, .int .i64 0] 42)) hHeld ((Below.refl wd.heap.size wd).alloc (Nat.le_refl _) _) (Nat.lt_of_lt_of_le hbl HBD.out.size)) (fun hHeld2 => ?_)
      clear hK K hHeld
      try simp only [Act.put, List.setIfInBounds_toArray, List.set_cons_zero, List.set_cons_succ]
      refine callV 19 rfl (by kernel_rfl) (by rfl) (fun K hK => ?_)
      go_simp
      refine hK.out _ _ (RS.next HRS.out ((Below.refl wd.heap.size wd).alloc (Nat.le_refl _) _) (Nat.lt_of_lt_of_le hbl HBD.out.size)) (fun _ => ?_)
      clear hK K hHeld2
      try simp only [Act.put, List.setIfInBounds_toArray, List.set_cons_zero, List.set_cons_succ]
      refine wpAnyH_done (by kernel_rfl) ?_ _
      obtain ⟨W4, hW4⟩ : ∃ W4, wd.alloc (.cells #[.int .i64 0, .int .i64 0, .int .i64 0, .int .i64 0, .string ⟨#[]⟩, .int .i64 (pAt ps 3).n, .bool aq, .int .i64 (pAt ps 5).n, .int .i64 (pAt ps 6).n] 42) = W4 := ⟨_, rfl⟩
      have HD4 : Hid (DatAt W4 wd.heap.size (startD ps)) := by
        rw [← hW4, show startD ps = ⟨0, 0, 0, 0, ⟨#[]⟩, (pAt ps 3).n, aq, (pAt ps 5).n, (pAt ps 6).n⟩ from by unfold startD; rw [HAQ.out]]
        exact (datAt_new wd ⟨0, 0, 0, 0, ⟨#[]⟩, (pAt ps 3).n, aq, (pAt ps 5).n, (pAt ps 6).n⟩ : DatAt _ _ _)
      have HB4 : Hid (Below wd.heap.size wd W4) := by rw [← hW4]; exact (Below.refl _ _).alloc (Nat.le_refl _) _
      rw [hW4]
      clear hW4
      go_wp2
      go_loopg [12] 3 (fun g z wr => ∃ j : Nat, z = .int .i64 j ∧ j + g = 3 ∧ Hid (DatAt wr wd.heap.size (st4 ps j)) ∧ Hid (Below wd.heap.size wd wr))
      case atStart => exact ⟨0, rfl, by omega, HD4.out, HB4.out⟩
      case round =>
        obtain ⟨j, rfl, hj, HD, HB⟩ := hrel
        have hlb : b3 < wd.heap.size := Nat.lt_of_lt_of_le hbl HBD.out.size
        rcases (by omega : j = 0 ∨ j = 1 ∨ j = 2 ∨ j = 3) with rfl | rfl | rfl | rfl
        · obtain rfl : gk = 3 := by omega
          have hq := ((HP.out 0 (by omega)).next HBD.out hbl).next HB.out hlb
          have q1 : wr.cell? ⟨b3, o3 + 2, none⟩ = _ := hq.c2
          have q2 : wr.cell? ⟨b3, o3 + 2 + 1, none⟩ = _ := hq.c3
          have q3 : wr.cell? ⟨b3, o3 + 2 + 2, none⟩ = _ := hq.c4
          have c2 := HD.out.c2
          have c3 := HD.out.c3
          have c4 := HD.out.c4
          have f2 := HD.out.fz 2
          have f3 := HD.out.fz 3
          have f4 := HD.out.fz 4
          have HNX := Lib.hid (HD.out.setV (pAt ps 0).k (pAt ps 0).m (pAt ps 0).s)
          have HBX := Lib.hid (((HB.out.setCell (p := ⟨wd.heap.size, 2, none⟩) (Nat.le_refl _) (.int .i64 (pAt ps 0).k)).setCell (p := ⟨wd.heap.size, 3, none⟩) (Nat.le_refl _) (.int .i64 (pAt ps 0).m)).setCell (p := ⟨wd.heap.size, 4, none⟩) (Nat.le_refl _) (.string (pAt ps 0).s))
          clear hq
          go_wp2
          go_roundg 2
          case measure => omega
          case rel => exact ⟨1, rfl, by omega, HNX.out, HBX.out⟩
        · obtain rfl : gk = 2 := by omega
          have hq := ((HP.out 1 (by omega)).next HBD.out hbl).next HB.out hlb
          have q1 : wr.cell? ⟨b3, o3 + 5 + 1, none⟩ = _ := hq.c1
          have c0 := HD.out.c1
          have f0 := HD.out.fz 1
          have HNX := Lib.hid (HD.out.setA (pAt ps 1).n)
          have HBX := Lib.hid (HB.out.setCell (p := ⟨wd.heap.size, 1, none⟩) (Nat.le_refl _) (.int .i64 (pAt ps 1).n))
          clear hq
          go_wp2
          go_roundg 1
          case measure => omega
          case rel => exact ⟨2, rfl, by omega, HNX.out, HBX.out⟩
        · obtain rfl : gk = 1 := by omega
          have hq := ((HP.out 2 (by omega)).next HBD.out hbl).next HB.out hlb
          have q1 : wr.cell? ⟨b3, o3 + 10 + 1, none⟩ = _ := hq.c1
          have c0 := HD.out.c0
          have f0 := HD.out.fz 0
          have HNX := Lib.hid (HD.out.setE (pAt ps 2).n)
          have HBX := Lib.hid (HB.out.setCell (p := ⟨wd.heap.size, 0, none⟩) (Nat.le_refl _) (.int .i64 (pAt ps 2).n))
          clear hq
          go_wp2
          go_roundg 0
          case measure => omega
          case rel => exact ⟨3, rfl, by omega, HNX.out, HBX.out⟩
        · obtain rfl : gk = 0 := by omega
          have HDD : Hid (DatAt wr wd.heap.size (datL 4 ps)) := HD.out
          obtain ⟨D, hD⟩ : ∃ D, datL 4 ps = D := ⟨_, rfl⟩
          rw [hD] at HDD HOK HSZ HIS HRF HRT
          have hsz := HSZ.out
          have HKEY := Lib.hid (rKey_any 4 D wr (by omega) HOK.out)
          have HBW : Hid (Below w.heap.size w wr) := (HB3.out.trans (HBD.out.mono HB3.out.size)).trans (HB.out.mono (Nat.le_trans HB3.out.size HBD.out.size))
          have HZW : Hid (DatAt wr w.heap.size zeroD) := ((HZ3.out.next HBD.out HZ3.out.lt).next HB.out (Nat.lt_of_lt_of_le HZ3.out.lt HBD.out.size))
          have c0 := HDD.out.c0
          have c1 := HDD.out.c1
          have c2 := HDD.out.c2
          have c3' := HDD.out.c3
          have c4 := HDD.out.c4
          have c5 := HDD.out.c5
          have c6 := HDD.out.c6
          have c7 := HDD.out.c7
          have c8 := HDD.out.c8
          clear hD HD hsz
          go_wp2_with fail
          refine HKEY.out.mono ?_
          rintro e w5 ⟨⟨hno, _⟩ | ⟨_, hf, rfl⟩ | ⟨hf, kv, rfl, hown⟩, hb⟩
          · exact absurd hno (by decide)
          · have HB5 := Lib.hid (HBW.out.trans (hb.mono HBW.out.size))
            have HZX := Lib.hid (HZW.out.next hb HZW.out.lt)
            have HN := Lib.hid (HRF.out (by rw [hf, Bool.and_false]))
            clear hb hf c0 c1 c2 c3' c4 c5 c6 c7 c8
            have c0 := HZX.out.c0
            have c1 := HZX.out.c1
            have c2 := HZX.out.c2
            have c3 := HZX.out.c3
            have c4 := HZX.out.c4
            have c5 := HZX.out.c5
            have c6 := HZX.out.c6
            have c7 := HZX.out.c7
            have c8 := HZX.out.c8
            have f0 := HZX.out.fz 0
            have f1 := HZX.out.fz 1
            have f2 := HZX.out.fz 2
            have f3 := HZX.out.fz 3
            have f4 := HZX.out.fz 4
            have f5 := HZX.out.fz 5
            have f6 := HZX.out.fz 6
            have f7 := HZX.out.fz 7
            have f8 := HZX.out.fz 8
            have HDN := Lib.hid (HZX.out.set9 zeroD)
            clear HZX
            go_wp2
            have e0 := HDN.out.c0
            have e1 := HDN.out.c1
            have e2 := HDN.out.c2
            have e3 := HDN.out.c3
            have e4 := HDN.out.c4
            have e5 := HDN.out.c5
            have e6 := HDN.out.c6
            have e7 := HDN.out.c7
            have e8 := HDN.out.c8
            simp only [zeroD] at e0 e1 e2 e3 e4 e5 e6 e7 e8
            refine bodyPost_ret (v := .tuple #[dV zeroD, .int .i64 40]) ?_ rfl (dReadEnd_no rfl HN.out (HB5.out.trans (below_set9 (Nat.le_refl _) _ _ _ _ _ _ _ _ _)))
            rw [results_cell_tmp rfl]
            unfold dV zeroD
            go_simp
          · have HB5 := Lib.hid (HBW.out.trans (hb.mono HBW.out.size))
            have HZX := Lib.hid (HZW.out.next hb HZW.out.lt)
            have HD5 := Lib.hid (HDD.out.next hb HDD.out.lt)
            have hc1 := ownB_string w5 kv _ (keyD 4 D) hown
            have hc2 := slB_string ((HS.out.next HB5.out (Nat.le_refl _)).more HB5.out.size) c
            have HF := Lib.hid hf
            clear hb hf hown c0 c1 c2 c3' c4 c5 c6 c7 c8
            by_cases hkb : keyD 4 D = b
            · have HY := Lib.hid (HRT.out (HIS.out.1 ⟨HF.out, hkb⟩))
              rw [hkb] at hc1
              have HB6 := HB5
              have d0 := HD5.out.c0
              have d1 := HD5.out.c1
              have d2 := HD5.out.c2
              have d3 := HD5.out.c3
              have d4 := HD5.out.c4
              have d5 := HD5.out.c5
              have d6 := HD5.out.c6
              have d7 := HD5.out.c7
              have d8 := HD5.out.c8
              clear hkb
              have c0 := HZX.out.c0
              have c1 := HZX.out.c1
              have c2 := HZX.out.c2
              have c3 := HZX.out.c3
              have c4 := HZX.out.c4
              have c5 := HZX.out.c5
              have c6 := HZX.out.c6
              have c7 := HZX.out.c7
              have c8 := HZX.out.c8
              have f0 := HZX.out.fz 0
              have f1 := HZX.out.fz 1
              have f2 := HZX.out.fz 2
              have f3 := HZX.out.fz 3
              have f4 := HZX.out.fz 4
              have f5 := HZX.out.fz 5
              have f6 := HZX.out.fz 6
              have f7 := HZX.out.fz 7
              have f8 := HZX.out.fz 8
              have HDN := Lib.hid (HZX.out.set9 D)
              clear HZX
              go_wp2_with fail
              have e0 := HDN.out.c0
              have e1 := HDN.out.c1
              have e2 := HDN.out.c2
              have e3 := HDN.out.c3
              have e4 := HDN.out.c4
              have e5 := HDN.out.c5
              have e6 := HDN.out.c6
              have e7 := HDN.out.c7
              have e8 := HDN.out.c8
              refine bodyPost_ret (v := .tuple #[dV D, .int .i64 0]) ?_ rfl (dReadEnd_yes rfl HY.out (HB6.out.trans (below_set9 (Nat.le_refl _) _ _ _ _ _ _ _ _ _)))
              rw [results_cell_tmp rfl]
              unfold dV
              go_simp
            · have HN := Lib.hid (HRF.out (by
                cases hh : (addOk ps && fitD 4 D) with
                | false => rfl
                | true => exact absurd (HIS.out.2 hh).2 hkb))
              have hq : ((⟨(keyD 4 D).toArray⟩ : ByteArray).toList == (⟨b.toArray⟩ : ByteArray).toList) = false := by
                rw [ByteArray.toList_eq, ByteArray.toList_eq, beq_eq_false_iff_ne]
                exact hkb
              obtain ⟨X, hX⟩ : ∃ X : ByteArray, ⟨(keyD 4 D).toArray⟩ = X := ⟨_, rfl⟩
              obtain ⟨Y, hY⟩ : ∃ Y : ByteArray, ⟨b.toArray⟩ = Y := ⟨_, rfl⟩
              rw [hX] at hc1 hq
              rw [hY] at hc2 hq
              clear hkb hX hY HRF HRT HIS HF HKEY
              have c0 := HZX.out.c0
              have c1 := HZX.out.c1
              have c2 := HZX.out.c2
              have c3 := HZX.out.c3
              have c4 := HZX.out.c4
              have c5 := HZX.out.c5
              have c6 := HZX.out.c6
              have c7 := HZX.out.c7
              have c8 := HZX.out.c8
              have f0 := HZX.out.fz 0
              have f1 := HZX.out.fz 1
              have f2 := HZX.out.fz 2
              have f3 := HZX.out.fz 3
              have f4 := HZX.out.fz 4
              have f5 := HZX.out.fz 5
              have f6 := HZX.out.fz 6
              have f7 := HZX.out.fz 7
              have f8 := HZX.out.fz 8
              have HDN := Lib.hid (HZX.out.set9 zeroD)
              clear HZX
              go_wp2
              have e0 := HDN.out.c0
              have e1 := HDN.out.c1
              have e2 := HDN.out.c2
              have e3 := HDN.out.c3
              have e4 := HDN.out.c4
              have e5 := HDN.out.c5
              have e6 := HDN.out.c6
              have e7 := HDN.out.c7
              have e8 := HDN.out.c8
              simp only [zeroD] at e0 e1 e2 e3 e4 e5 e6 e7 e8
              refine bodyPost_ret (v := .tuple #[dV zeroD, .int .i64 40]) ?_ rfl (dReadEnd_no rfl HN.out (HB5.out.trans (below_set9 (Nat.le_refl _) _ _ _ _ _ _ _ _ _)))
              rw [results_cell_tmp rfl]
              unfold dV zeroD
              go_simp

end Go.Proofs.Ytefekkcmoambhaa

/-
  CONTRACT of the document's own answer over datoms: Read.
-/
namespace Go.Proofs.Ytefekkcmoambhaa
open Go.RowKit
set_option maxRecDepth 100000 in
set_option maxHeartbeats 2000000 in
theorem refReadD_noO (o : Int) (ho : isO o = false) (A : Option Addr) (c : Nat) (b : List UInt8) (w : World) : Calls Try.prog 33 #[.int .i64 o, .slice A b.length c] w (DReadEnd w o b) := by
  have HO := Lib.hid ho
  obtain ⟨w0, hw0⟩ : ∃ w0, w.alloc (.cells #[.int .i64 0, .int .i64 0, .int .i64 0, .int .i64 0, .string ⟨#[]⟩, .int .i64 0, .bool false, .int .i64 0, .int .i64 0] 42) = w0 := ⟨_, rfl⟩
  have HZX : Hid (DatAt w0 w.heap.size zeroD) := by rw [← hw0]; exact datAt_new w zeroD
  have HB1 : Hid (Below w.heap.size w w0) := by rw [← hw0]; exact (Below.refl _ _).alloc (Nat.le_refl _) _
  have HW0 := Lib.hid hw0
  clear hw0
  rcases noO ho with h | ⟨h, h'⟩
  · clear ho
    go_enter Try.func33, Try.ntmps33
    go_upto_region 1 with (fail)
    rw [HW0.out]
    have c0 := HZX.out.c0
    have c1 := HZX.out.c1
    have c2 := HZX.out.c2
    have c3 := HZX.out.c3
    have c4 := HZX.out.c4
    have c5 := HZX.out.c5
    have c6 := HZX.out.c6
    have c7 := HZX.out.c7
    have c8 := HZX.out.c8
    have f0 := HZX.out.fz 0
    have f1 := HZX.out.fz 1
    have f2 := HZX.out.fz 2
    have f3 := HZX.out.fz 3
    have f4 := HZX.out.fz 4
    have f5 := HZX.out.fz 5
    have f6 := HZX.out.fz 6
    have f7 := HZX.out.fz 7
    have f8 := HZX.out.fz 8
    have HDN := Lib.hid (HZX.out.set9 zeroD)
    clear HZX
    go_wp2
    have e0 := HDN.out.c0
    have e1 := HDN.out.c1
    have e2 := HDN.out.c2
    have e3 := HDN.out.c3
    have e4 := HDN.out.c4
    have e5 := HDN.out.c5
    have e6 := HDN.out.c6
    have e7 := HDN.out.c7
    have e8 := HDN.out.c8
    simp only [zeroD] at e0 e1 e2 e3 e4 e5 e6 e7 e8
    refine bodyPost_ret (v := .tuple #[dV zeroD, .int .i64 2]) ?_ rfl (⟨.inl ⟨HO.out, rfl⟩, HB1.out.trans (below_set9 (Nat.le_refl _) _ _ _ _ _ _ _ _ _)⟩)
    rw [results_cell_tmp rfl]
    unfold dV zeroD
    go_simp
  · clear ho
    go_enter Try.func33, Try.ntmps33
    go_upto_region 1 with (fail)
    rw [HW0.out]
    have c0 := HZX.out.c0
    have c1 := HZX.out.c1
    have c2 := HZX.out.c2
    have c3 := HZX.out.c3
    have c4 := HZX.out.c4
    have c5 := HZX.out.c5
    have c6 := HZX.out.c6
    have c7 := HZX.out.c7
    have c8 := HZX.out.c8
    have f0 := HZX.out.fz 0
    have f1 := HZX.out.fz 1
    have f2 := HZX.out.fz 2
    have f3 := HZX.out.fz 3
    have f4 := HZX.out.fz 4
    have f5 := HZX.out.fz 5
    have f6 := HZX.out.fz 6
    have f7 := HZX.out.fz 7
    have f8 := HZX.out.fz 8
    have HDN := Lib.hid (HZX.out.set9 zeroD)
    clear HZX
    go_wp2
    have e0 := HDN.out.c0
    have e1 := HDN.out.c1
    have e2 := HDN.out.c2
    have e3 := HDN.out.c3
    have e4 := HDN.out.c4
    have e5 := HDN.out.c5
    have e6 := HDN.out.c6
    have e7 := HDN.out.c7
    have e8 := HDN.out.c8
    simp only [zeroD] at e0 e1 e2 e3 e4 e5 e6 e7 e8
    refine bodyPost_ret (v := .tuple #[dV zeroD, .int .i64 2]) ?_ rfl (⟨.inl ⟨HO.out, rfl⟩, HB1.out.trans (below_set9 (Nat.le_refl _) _ _ _ _ _ _ _ _ _)⟩)
    rw [results_cell_tmp rfl]
    unfold dV zeroD
    go_simp
/-- Read, as the document has it. -/
theorem dRefRead_any (o : Int) (A : Option Addr) (c : Nat) (b : List UInt8) (w : World) (hs : SlB w w.heap.size A b) (hl : b.length ≤ 3000) (hlc : b.length ≤ c) (hc : c ≤ maxLen) :
    Calls Try.prog 33 #[.int .i64 o, .slice A b.length c] w (DReadEnd w o b) := by
  cases ho : isO o
  · exact refReadD_noO o ho A c b w
  · rcases isO_cases ho with rfl | rfl | rfl | rfl
    · exact refReadD_1 A c b w hs hl hlc hc
    · exact refReadD_2 A c b w hs hl hlc hc
    · exact refReadD_3 A c b w hs hl hlc hc
    · exact refReadD_4 A c b w hs hl hlc hc
end Go.Proofs.Ytefekkcmoambhaa
