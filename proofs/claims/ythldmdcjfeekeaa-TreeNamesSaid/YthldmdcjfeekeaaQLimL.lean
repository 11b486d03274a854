/-
  THE LAW TreeLimits.
-/
import Derived.Test.YthldmdcjfeekeaaQGrow
import Derived.Deep.OwnRows
import Derived.Laws.OwnMore
namespace Go.Proofs.Ythldmdcjfeekeaa
open Go.RowKit

theorem get_put {L : List Pr} (h : Rise L) (k x : By) : getL (putL L (k, x)) k = some x := (getL_some (rise_put h _)).2 (mem_put.2 (.inl rfl))
theorem made_at (w : World) (n : Nat) : SlB (w.alloc (.cells (madeCells #[.int .u8 0] n) 5)) (w.heap.size + 1) (some ⟨w.heap.size, 0, none⟩) (List.replicate n 0) := fun _ => by
  refine ⟨_, rfl, Nat.lt_succ_self _, fun j x hx => ?_⟩
  obtain ⟨hj, rfl⟩ := List.getElem?_eq_some_iff.1 hx
  rw [List.length_replicate] at hj
  rw [List.getElem_replicate, add0]
  simp only [World.cell?, heap_alloc_new]
  rw [← Array.getElem?_toList, toList_madeCells_one]
  simp [hj]
set_option maxRecDepth 100000 in
set_option maxHeartbeats 4000000 in
theorem limits_law (A : Option Addr) (c : Nat) (l : List OpP) (kn vn : Int) (w : World) (hs : SlO w A l) (hl : l.length ≤ 9223372036854775807) (hk0 : 0 ≤ kn) (hk1 : kn < 4294967296) (hv0 : 0 ≤ vn) (hv1 : vn < 4294967296) :
    Calls Try.prog 4 #[.slice A l.length c, .int .u32 kn, .int .u32 vn] w fun e w' => e = .returned (.bool true) ∧ Below w.heap.size w w' := by
  obtain ⟨kk, hkk⟩ : ∃ n : Nat, kn % 5000 = (n : Int) := ⟨(kn % 5000).toNat, by omega⟩
  obtain ⟨vv, hvv⟩ : ∃ n : Nat, vn % 70000 = (n : Int) := ⟨(vn % 70000).toNat, by omega⟩
  have HKV : Hid (kk < 5000 ∧ vv < 70000) := by show _ ∧ _; omega
  have HS := Lib.hid hs
  have HG := Lib.hid (great_any A c l w hs hl)
  clear hs
  go_enter Try.func4, Try.ntmps4
  go_wp2_with fail
  refine HG.out.mono ?_
  rintro e w' ⟨gr, rfl, rfl, hgr⟩
  cases gr with
  | true =>
    go_wp2
    go_ret
    exact ⟨rfl, Below.refl _ _⟩
  | false =>
  have HGR := Lib.hid (hgr rfl)
  clear hgr HG hl
  go_wp2
  go_loopg [7, 22] l.length (fun gk t i wr => ∃ (j : Nat) (u : Option Addr) (L : List Pr), i = .int .i64 j ∧ t = .pointer u ∧ j + gk = l.length ∧ Hid (TreeV wr (.pointer u) L) ∧ Hid (L.length ≤ j) ∧ Hid (Below w.heap.size w wr))
  case atStart => exact ⟨0, none, [], rfl, rfl, by omega, treeV_nil _, Nat.le_refl _, Below.refl _ _⟩
  case round =>
    obtain ⟨j, u, L, rfl, rfl, hj, HT, HL, HB⟩ := hrel
    have hj9 : l.length ≤ 100 := HGR.out.1
    cases gk with
    | zero =>
      have hjz : ¬ ((j : Int) < (l.length : Int)) := by omega
      have hjz' : decide ((j : Int) < (l.length : Int)) = false := decide_eq_false hjz
      have hmk := fun X => run_make_row' (P := Try.prog) 34 5 (.int .u8 0) 1 Try.underlying34 info8 rfl .i64 .i64 kk (by have := HKV.out; omega) (by have := HKV.out; omega) X
      have hmv := fun X => run_make_row' (P := Try.prog) 34 5 (.int .u8 0) 1 Try.underlying34 info8 rfl .i64 .i64 vv (by have := HKV.out; omega) (by have := HKV.out; omega) X
      obtain ⟨wa, hwa⟩ : ∃ X, wr.alloc (.cells (madeCells #[.int .u8 0] kk) 5) = X := ⟨_, rfl⟩
      obtain ⟨wv, hwv⟩ : ∃ X, wa.alloc (.cells (madeCells #[.int .u8 0] vv) 5) = X := ⟨_, rfl⟩
      have hza : wa.heap.size = wr.heap.size + 1 := by rw [← hwa]; simp
      have hba : Below wr.heap.size wr wa := by rw [← hwa]; exact (Below.refl _ _).alloc (Nat.le_refl _) _
      have hbv : Below wa.heap.size wa wv := by rw [← hwv]; exact (Below.refl _ _).alloc (Nat.le_refl _) _
      have hzv : wv.heap.size = wa.heap.size + 1 := by rw [← hwv]; simp
      have hka : SlB wa wa.heap.size (some ⟨wr.heap.size, 0, none⟩) (List.replicate kk 0) := by rw [hza, ← hwa]; exact made_at wr kk
      have HKA := Lib.hid (slB_next hka hbv)
      have HVA : Hid (SlB wv wv.heap.size (some ⟨wr.heap.size + 1, 0, none⟩) (List.replicate vv 0)) := by show SlB _ _ _ _; rw [hzv, ← hza, ← hwv]; exact made_at wa vv
      have HBA := Lib.hid (HB.out.trans ((hba.trans (hbv.mono hba.size)).mono HB.out.size))
      have HTA := Lib.hid (HT.out.next (hba.trans (hbv.mono hba.size)))
      have hlk : (List.replicate kk (0 : UInt8)).length = kk := List.length_replicate
      have hlv : (List.replicate vv (0 : UInt8)).length = vv := List.length_replicate
      obtain ⟨KZ, hKZ⟩ : ∃ z, List.replicate kk (0 : UInt8) = z := ⟨_, rfl⟩
      obtain ⟨VZ, hVZ⟩ : ∃ z, List.replicate vv (0 : UInt8) = z := ⟨_, rfl⟩
      rw [hKZ] at HKA hlk
      rw [hVZ] at HVA hlv
      subst hlk hlv
      have hkv := HKV.out
      clear hka hbv hba hKZ hVZ
      by_cases g2 : KZ.length ≤ 4096 ∧ VZ.length ≤ 65536
      · have HPT := Lib.hid (putM_any _ _ KZ.length VZ.length KZ VZ wv HTA.out HKA.out HVA.out g2.1 g2.2 (by have := HL.out; omega))
        have HRI := Lib.hid HTA.out.rise
        have q1 : (KZ.length : Int) ≤ 4096 := by omega
        have q2 : (VZ.length : Int) ≤ 65536 := by omega
        have q1' : decide ((KZ.length : Int) ≤ 4096) = true := decide_eq_true q1
        have q2' : decide ((VZ.length : Int) ≤ 65536) = true := decide_eq_true q2
        go_wp2_with fail
        try rw [hwa]
        try rw [hwv]
        refine HPT.out.mono ?_
        rintro e w1 ⟨v1, rfl, ⟨b1, rfl⟩, ht1, hb1⟩
        have HG1 := Lib.hid (getM_any (some ⟨wr.heap.size, 0, none⟩) KZ.length KZ w1 ht1 (HKA.out.next hb1 (Nat.le_refl _)))
        rw [get_put HRI.out] at HG1
        have HB1 := Lib.hid (HBA.out.trans (hb1.mono HBA.out.size))
        clear ht1 hb1 hwa hwv hza hzv
        go_wp2_with fail
        refine HG1.out.mono ?_
        rintro e w2 ⟨A5, c5, rfl, _, hb2⟩
        have HB2 := Lib.hid (HB1.out.trans (hb2.mono HB1.out.size))
        clear hb2
        simp only [Option.getD_some, Option.isSome_some]
        go_wp2
        go_ret
        exact ⟨rfl, HB2.out⟩
      · have HPT := Lib.hid (putM_no (.pointer u) (some ⟨wr.heap.size, 0, none⟩) (some ⟨wr.heap.size + 1, 0, none⟩) KZ.length VZ.length KZ VZ wv (by omega))
        by_cases q1 : (KZ.length : Int) ≤ 4096
        · have q2 : ¬ (VZ.length : Int) ≤ 65536 := by omega
          have q1' : decide ((KZ.length : Int) ≤ 4096) = true := decide_eq_true q1
          have q2' : decide ((VZ.length : Int) ≤ 65536) = false := decide_eq_false q2
          go_wp2_with fail
          try rw [hwa]
          try rw [hwv]
          refine HPT.out.mono ?_
          rintro e w1 ⟨rfl, rfl⟩
          clear hwa hwv hza hzv
          go_wp2
          go_ret
          exact ⟨rfl, HBA.out⟩
        · have q1' : decide ((KZ.length : Int) ≤ 4096) = false := decide_eq_false q1
          go_wp2_with fail
          try rw [hwa]
          try rw [hwv]
          refine HPT.out.mono ?_
          rintro e w1 ⟨rfl, rfl⟩
          clear hwa hwv hza hzv
          go_wp2
          go_ret
          exact ⟨rfl, HBA.out⟩
    | succ gk =>
      have hjz : ((j : Int) < (l.length : Int)) := by omega
      have hjz' : decide ((j : Int) < (l.length : Int)) = true := decide_eq_true hjz
      have hjn : j < l.length := by omega
      obtain ⟨b, o, rfl, hat⟩ := HS.out.next HB.out (fun e => by rw [e] at hjn; simp at hjn)
      have hop := hat j _ (List.getElem?_eq_getElem hjn)
      obtain ⟨x, hx⟩ : ∃ x, l[j] = x := ⟨_, rfl⟩
      rw [hx] at hop
      obtain ⟨A1, c1, hk, hks⟩ := hop.c2
      obtain ⟨A2, c2, hv, hvs⟩ := hop.c3
      have HLT := Lib.hid hop.lt
      have HK := Lib.hid hk
      have HV := Lib.hid hv
      have HKS := Lib.hid hks
      have HVS := Lib.hid hvs
      clear hop hat hx hks hvs hv hk
      go_wp2_with fail
      by_cases g2 : x.k.length ≤ 4096 ∧ x.v.length ≤ 65536
      · have HPT := Lib.hid (fun X (hX : Below wr.heap.size wr X) => putM_any A1 A2 c1 c2 x.k x.v X (HT.out.next hX) (slB_next HKS.out hX) (slB_next HVS.out hX) g2.1 g2.2 (by have := HL.out; omega))
        have HS0 := Lib.hid (qb_dn (Below.refl wr.heap.size wr) 1)
        obtain ⟨we, hwe⟩ : ∃ X, wr.drew = X := ⟨_, rfl⟩
        refine wp_region_held_drew (S := fun X => Below wr.heap.size wr X) (by kernel_rfl) HS0.out (fun hHeld => ?_)
        rw [hwe] at hHeld ⊢
        clear hwe HS0
        refine takeV 0 (some 26) ((.pointer u)) rfl rfl (by kernel_rfl) (by kernel_rfl) (by kernel_rfl) (fun _ _ _ h => h) (by rfl) (by (intro _w _hSw; (try dsimp only at _hSw); go_simp)) (by assumption) ?_
        simp only [Act.put, List.setIfInBounds_toArray, List.set_cons_zero, List.set_cons_succ]
        refine takeV 1 (some 27) ((.slice (some ⟨b, o, none⟩) l.length c)) rfl rfl (by kernel_rfl) (by kernel_rfl) (by kernel_rfl) (fun _ _ _ h => h) (by rfl) (by (intro _w _hSw; (try dsimp only at _hSw); go_simp)) (by assumption) ?_
        simp only [Act.put, List.setIfInBounds_toArray, List.set_cons_zero, List.set_cons_succ]
        refine takeV 2 (some 28) ((.int .i64 (j : Nat))) rfl rfl (by kernel_rfl) (by kernel_rfl) (by kernel_rfl) (fun _ _ _ h => h) (by rfl) (by (intro _w _hSw; (try dsimp only at _hSw); go_simp)) (by assumption) ?_
        simp only [Act.put, List.setIfInBounds_toArray, List.set_cons_zero, List.set_cons_succ]
        refine takeV 3 (some 29) ((.pointer (some ⟨b, o + j * 6, none⟩))) rfl rfl (by kernel_rfl) (by kernel_rfl) (by kernel_rfl) (fun _ _ _ h => h) (by rfl) (by (intro _w _hSw; (try dsimp only at _hSw); go_simp)) (by assumption) ?_
        simp only [Act.put, List.setIfInBounds_toArray, List.set_cons_zero, List.set_cons_succ]
        refine takeV 4 (some 30) ((.pointer (some ⟨b, o + j * 6 + 2, none⟩))) rfl rfl (by kernel_rfl) (by kernel_rfl) (by kernel_rfl) (fun _ _ _ h => h) (by rfl) (by (intro _w _hSw; (try dsimp only at _hSw); go_simp)) (by assumption) ?_
        simp only [Act.put, List.setIfInBounds_toArray, List.set_cons_zero, List.set_cons_succ]
        refine takeV 5 (some 31) ((.slice A1 x.k.length c1)) rfl rfl (by kernel_rfl) (by kernel_rfl) (by kernel_rfl) (fun _ _ _ h => h) (by rfl) (by (intro _w hSw; have hk : _w.cell? ⟨b, o + j * 6 + 2, none⟩ = some (.slice A1 x.k.length c1) := (hSw.cell (p := ⟨b, o + j * 6 + 2, none⟩) HLT.out).trans HK.out; clear hSw; go_simp)) (by assumption) ?_
        simp only [Act.put, List.setIfInBounds_toArray, List.set_cons_zero, List.set_cons_succ]
        refine takeV 6 (some 32) ((.slice (some ⟨b, o, none⟩) l.length c)) rfl rfl (by kernel_rfl) (by kernel_rfl) (by kernel_rfl) (fun _ _ _ h => h) (by rfl) (by (intro _w _hSw; (try dsimp only at _hSw); go_simp)) (by assumption) ?_
        simp only [Act.put, List.setIfInBounds_toArray, List.set_cons_zero, List.set_cons_succ]
        refine takeV 7 (some 33) ((.int .i64 (j : Nat))) rfl rfl (by kernel_rfl) (by kernel_rfl) (by kernel_rfl) (fun _ _ _ h => h) (by rfl) (by (intro _w _hSw; (try dsimp only at _hSw); go_simp)) (by assumption) ?_
        simp only [Act.put, List.setIfInBounds_toArray, List.set_cons_zero, List.set_cons_succ]
        refine takeV 8 (some 34) ((.pointer (some ⟨b, o + j * 6, none⟩))) rfl rfl (by kernel_rfl) (by kernel_rfl) (by kernel_rfl) (fun _ _ _ h => h) (by rfl) (by (intro _w _hSw; (try dsimp only at _hSw); go_simp)) (by assumption) ?_
        simp only [Act.put, List.setIfInBounds_toArray, List.set_cons_zero, List.set_cons_succ]
        refine takeV 9 (some 35) ((.pointer (some ⟨b, o + j * 6 + 3, none⟩))) rfl rfl (by kernel_rfl) (by kernel_rfl) (by kernel_rfl) (fun _ _ _ h => h) (by rfl) (by (intro _w _hSw; (try dsimp only at _hSw); go_simp)) (by assumption) ?_
        simp only [Act.put, List.setIfInBounds_toArray, List.set_cons_zero, List.set_cons_succ]
        refine takeV 10 (some 36) ((.slice A2 x.v.length c2)) rfl rfl (by kernel_rfl) (by kernel_rfl) (by kernel_rfl) (fun _ _ _ h => h) (by rfl) (by (intro _w hSw; have hv : _w.cell? ⟨b, o + j * 6 + 3, none⟩ = some (.slice A2 x.v.length c2) := (hSw.cell (p := ⟨b, o + j * 6 + 3, none⟩) HLT.out).trans HV.out; clear hSw; go_simp)) (by assumption) ?_
        simp only [Act.put, List.setIfInBounds_toArray, List.set_cons_zero, List.set_cons_succ]
        refine callV 11 rfl (by kernel_rfl) (by rfl) (fun K hK => ?_)
        go_simp
        refine (HPT.out _ hHeld).mono ?_
        rintro e w1 ⟨v1, rfl, ⟨b1, rfl⟩, ht1, hb1⟩
        have HT1 := Lib.hid ht1
        have HB1 := Lib.hid (HB.out.trans ((hHeld.trans (hb1.mono hHeld.size)).mono HB.out.size))
        refine hK.out _ _ (below_more hHeld hb1 hHeld.size) (fun hHeld2 => ?_)
        clear hK K hHeld ht1 hb1
        have hHeld := hHeld2
        clear hHeld2
        try simp only [Act.put, List.setIfInBounds_toArray, List.set_cons_zero, List.set_cons_succ]
        refine takeV 12 (some 25) ((.tuple #[.pointer (some ⟨b1, 0, none⟩), .int .i64 0])) rfl rfl (by kernel_rfl) (by kernel_rfl) (by kernel_rfl) (fun _ _ _ h => h) (by rfl) (by (intro _w _hSw; (try dsimp only at _hSw); go_simp)) (by assumption) ?_
        simp only [Act.put, List.setIfInBounds_toArray, List.set_cons_zero, List.set_cons_succ]
        refine takeV 13 (some 38) ((.pointer (some ⟨b1, 0, none⟩))) rfl rfl (by kernel_rfl) (by kernel_rfl) (by kernel_rfl) (fun _ _ _ h => h) (by rfl) (by (intro _w _hSw; (try dsimp only at _hSw); go_simp)) (by assumption) ?_
        simp only [Act.put, List.setIfInBounds_toArray, List.set_cons_zero, List.set_cons_succ]
        refine takeV 14 (some 39) ((.int .i64 0)) rfl rfl (by kernel_rfl) (by kernel_rfl) (by kernel_rfl) (fun _ _ _ h => h) (by rfl) (by (intro _w _hSw; (try dsimp only at _hSw); go_simp)) (by assumption) ?_
        simp only [Act.put, List.setIfInBounds_toArray, List.set_cons_zero, List.set_cons_succ]
        refine takeV 15 (some 9) ((.pointer (some ⟨b1, 0, none⟩))) rfl rfl (by kernel_rfl) (by kernel_rfl) (by kernel_rfl) (fun _ _ _ h => h) (by rfl) (by (intro _w _hSw; (try dsimp only at _hSw); go_simp)) (by assumption) ?_
        simp only [Act.put, List.setIfInBounds_toArray, List.set_cons_zero, List.set_cons_succ]
        refine takeV 16 (some 10) ((.int .i64 0)) rfl rfl (by kernel_rfl) (by kernel_rfl) (by kernel_rfl) (fun _ _ _ h => h) (by rfl) (by (intro _w _hSw; (try dsimp only at _hSw); go_simp)) (by assumption) ?_
        simp only [Act.put, List.setIfInBounds_toArray, List.set_cons_zero, List.set_cons_succ]
        refine wpAnyH_done (by kernel_rfl) ?_ _
        go_wp2
        go_roundg gk
        case measure => omega
        case rel => exact ⟨j + 1, _, _, by go_num, rfl, by omega, HT1.out, (by show _ ≤ _; have := put_len L (x.k, x.v); have := HL.out; omega), HB1.out⟩
      · have HPT := Lib.hid (fun X => putM_no (.pointer u) A1 A2 c1 c2 x.k x.v X (by omega))
        have HS0 := Lib.hid (qb_dn (Below.refl wr.heap.size wr) 1)
        obtain ⟨we, hwe⟩ : ∃ X, wr.drew = X := ⟨_, rfl⟩
        refine wp_region_held_drew (S := fun X => Below wr.heap.size wr X) (by kernel_rfl) HS0.out (fun hHeld => ?_)
        rw [hwe] at hHeld ⊢
        clear hwe HS0
        refine takeV 0 (some 26) ((.pointer u)) rfl rfl (by kernel_rfl) (by kernel_rfl) (by kernel_rfl) (fun _ _ _ h => h) (by rfl) (by (intro _w _hSw; (try dsimp only at _hSw); go_simp)) (by assumption) ?_
        simp only [Act.put, List.setIfInBounds_toArray, List.set_cons_zero, List.set_cons_succ]
        refine takeV 1 (some 27) ((.slice (some ⟨b, o, none⟩) l.length c)) rfl rfl (by kernel_rfl) (by kernel_rfl) (by kernel_rfl) (fun _ _ _ h => h) (by rfl) (by (intro _w _hSw; (try dsimp only at _hSw); go_simp)) (by assumption) ?_
        simp only [Act.put, List.setIfInBounds_toArray, List.set_cons_zero, List.set_cons_succ]
        refine takeV 2 (some 28) ((.int .i64 (j : Nat))) rfl rfl (by kernel_rfl) (by kernel_rfl) (by kernel_rfl) (fun _ _ _ h => h) (by rfl) (by (intro _w _hSw; (try dsimp only at _hSw); go_simp)) (by assumption) ?_
        simp only [Act.put, List.setIfInBounds_toArray, List.set_cons_zero, List.set_cons_succ]
        refine takeV 3 (some 29) ((.pointer (some ⟨b, o + j * 6, none⟩))) rfl rfl (by kernel_rfl) (by kernel_rfl) (by kernel_rfl) (fun _ _ _ h => h) (by rfl) (by (intro _w _hSw; (try dsimp only at _hSw); go_simp)) (by assumption) ?_
        simp only [Act.put, List.setIfInBounds_toArray, List.set_cons_zero, List.set_cons_succ]
        refine takeV 4 (some 30) ((.pointer (some ⟨b, o + j * 6 + 2, none⟩))) rfl rfl (by kernel_rfl) (by kernel_rfl) (by kernel_rfl) (fun _ _ _ h => h) (by rfl) (by (intro _w _hSw; (try dsimp only at _hSw); go_simp)) (by assumption) ?_
        simp only [Act.put, List.setIfInBounds_toArray, List.set_cons_zero, List.set_cons_succ]
        refine takeV 5 (some 31) ((.slice A1 x.k.length c1)) rfl rfl (by kernel_rfl) (by kernel_rfl) (by kernel_rfl) (fun _ _ _ h => h) (by rfl) (by (intro _w hSw; have hk : _w.cell? ⟨b, o + j * 6 + 2, none⟩ = some (.slice A1 x.k.length c1) := (hSw.cell (p := ⟨b, o + j * 6 + 2, none⟩) HLT.out).trans HK.out; clear hSw; go_simp)) (by assumption) ?_
        simp only [Act.put, List.setIfInBounds_toArray, List.set_cons_zero, List.set_cons_succ]
        refine takeV 6 (some 32) ((.slice (some ⟨b, o, none⟩) l.length c)) rfl rfl (by kernel_rfl) (by kernel_rfl) (by kernel_rfl) (fun _ _ _ h => h) (by rfl) (by (intro _w _hSw; (try dsimp only at _hSw); go_simp)) (by assumption) ?_
        simp only [Act.put, List.setIfInBounds_toArray, List.set_cons_zero, List.set_cons_succ]
        refine takeV 7 (some 33) ((.int .i64 (j : Nat))) rfl rfl (by kernel_rfl) (by kernel_rfl) (by kernel_rfl) (fun _ _ _ h => h) (by rfl) (by (intro _w _hSw; (try dsimp only at _hSw); go_simp)) (by assumption) ?_
        simp only [Act.put, List.setIfInBounds_toArray, List.set_cons_zero, List.set_cons_succ]
        refine takeV 8 (some 34) ((.pointer (some ⟨b, o + j * 6, none⟩))) rfl rfl (by kernel_rfl) (by kernel_rfl) (by kernel_rfl) (fun _ _ _ h => h) (by rfl) (by (intro _w _hSw; (try dsimp only at _hSw); go_simp)) (by assumption) ?_
        simp only [Act.put, List.setIfInBounds_toArray, List.set_cons_zero, List.set_cons_succ]
        refine takeV 9 (some 35) ((.pointer (some ⟨b, o + j * 6 + 3, none⟩))) rfl rfl (by kernel_rfl) (by kernel_rfl) (by kernel_rfl) (fun _ _ _ h => h) (by rfl) (by (intro _w _hSw; (try dsimp only at _hSw); go_simp)) (by assumption) ?_
        simp only [Act.put, List.setIfInBounds_toArray, List.set_cons_zero, List.set_cons_succ]
        refine takeV 10 (some 36) ((.slice A2 x.v.length c2)) rfl rfl (by kernel_rfl) (by kernel_rfl) (by kernel_rfl) (fun _ _ _ h => h) (by rfl) (by (intro _w hSw; have hv : _w.cell? ⟨b, o + j * 6 + 3, none⟩ = some (.slice A2 x.v.length c2) := (hSw.cell (p := ⟨b, o + j * 6 + 3, none⟩) HLT.out).trans HV.out; clear hSw; go_simp)) (by assumption) ?_
        simp only [Act.put, List.setIfInBounds_toArray, List.set_cons_zero, List.set_cons_succ]
        refine callV 11 rfl (by kernel_rfl) (by rfl) (fun K hK => ?_)
        go_simp
        refine (HPT.out _).mono ?_
        rintro e w1 ⟨rfl, rfl⟩
        have HT1 := Lib.hid (HT.out.next hHeld)
        have HB1 := Lib.hid (HB.out.trans (hHeld.mono HB.out.size))
        refine hK.out _ _ hHeld (fun hHeld2 => ?_)
        clear hK K hHeld
        have hHeld := hHeld2
        clear hHeld2
        try simp only [Act.put, List.setIfInBounds_toArray, List.set_cons_zero, List.set_cons_succ]
        refine takeV 12 (some 25) ((.tuple #[.pointer none, .int .i64 100])) rfl rfl (by kernel_rfl) (by kernel_rfl) (by kernel_rfl) (fun _ _ _ h => h) (by rfl) (by (intro _w _hSw; (try dsimp only at _hSw); go_simp)) (by assumption) ?_
        simp only [Act.put, List.setIfInBounds_toArray, List.set_cons_zero, List.set_cons_succ]
        refine takeV 13 (some 38) ((.pointer none)) rfl rfl (by kernel_rfl) (by kernel_rfl) (by kernel_rfl) (fun _ _ _ h => h) (by rfl) (by (intro _w _hSw; (try dsimp only at _hSw); go_simp)) (by assumption) ?_
        simp only [Act.put, List.setIfInBounds_toArray, List.set_cons_zero, List.set_cons_succ]
        refine takeV 14 (some 39) ((.int .i64 100)) rfl rfl (by kernel_rfl) (by kernel_rfl) (by kernel_rfl) (fun _ _ _ h => h) (by rfl) (by (intro _w _hSw; (try dsimp only at _hSw); go_simp)) (by assumption) ?_
        simp only [Act.put, List.setIfInBounds_toArray, List.set_cons_zero, List.set_cons_succ]
        refine takeV 15 (some 9) ((.pointer none)) rfl rfl (by kernel_rfl) (by kernel_rfl) (by kernel_rfl) (fun _ _ _ h => h) (by rfl) (by (intro _w _hSw; (try dsimp only at _hSw); go_simp)) (by assumption) ?_
        simp only [Act.put, List.setIfInBounds_toArray, List.set_cons_zero, List.set_cons_succ]
        refine takeV 16 (some 10) ((.int .i64 100)) rfl rfl (by kernel_rfl) (by kernel_rfl) (by kernel_rfl) (fun _ _ _ h => h) (by rfl) (by (intro _w _hSw; (try dsimp only at _hSw); go_simp)) (by assumption) ?_
        simp only [Act.put, List.setIfInBounds_toArray, List.set_cons_zero, List.set_cons_succ]
        refine wpAnyH_done (by kernel_rfl) ?_ _
        go_wp2
        go_roundg gk
        case measure => omega
        case rel => exact ⟨j + 1, _, _, by go_num, rfl, by omega, HT1.out, (by show _ ≤ _; have := HL.out; omega), HB1.out⟩
end Go.Proofs.Ythldmdcjfeekeaa
