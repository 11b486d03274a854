/-
  THE LAW OrderWrites: its walk.
-/
import Derived.Test.YtpnjolacmkcofaaORefK
import Derived.Test.YtpnjolacmkcofaaOKeeps
namespace Go.Proofs.Ytpnjolacmkcofaa
open Go.RowKit Go.Shelf

theorem wpAnyH_mono {P : Program} {ops : Array Oper} {Q : Exit → Act → World → Prop} {md : Region.Mode} {S S' : World → Prop} (hs : ∀ w, S' w → S w) :
    ∀ (fuel : Nat) (listed : Array Bool) (a : Act) (w : World), wpAnyH P md ops Q S' fuel listed a w → wpAnyH P md ops Q S fuel listed a w
  | 0, _, _, _, h => h
  | fuel + 1, _, _, _, h => ⟨h.1, fun i hi => wpOp_mono (fun a' w' h' => ⟨hs _ h'.1, wpAnyH_mono hs fuel _ a' w' h'.2⟩) (h.2 i hi)⟩

/-- what stands in both results of a call of Key, Value, End -/
def keyN (l : List PartP) : Int := if l.all partMay = true then 0 else 10
def keyL (l : List PartP) : List UInt8 := if l.all partMay = true then keyB l else []
def valL (k n : Int) (s : ByteArray) : List UInt8 := if mayB k n s = true then valB k n s else []
def endL (l : List UInt8) : List UInt8 := (endF l).getD []
theorem keyEnd_is {W w' : World} {l : List PartP} {e : Ending} (h : KeyEnd W l e w') : ∃ A c, e = .returned (.tuple #[.slice A (keyL l).length c, .int .i64 (keyN l)]) ∧ SlB w' w'.heap.size A (keyL l) ∧ Below W.heap.size W w' := by
  rcases h with ⟨hm, ⟨v, rfl, ho⟩, hb⟩ | ⟨hm, rfl, hb⟩
  · obtain ⟨A, c, rfl⟩ := ownB_form ho
    unfold keyN keyL
    rw [if_pos hm, if_pos hm]
    exact ⟨A, c, rfl, (SlB.of_own ho).2, hb⟩
  · unfold keyN keyL
    rw [hm]
    exact ⟨none, 0, rfl, fun h => absurd rfl h, hb⟩
theorem valEnd_is {W w' : World} {k n : Int} {s : ByteArray} {e : Ending} (h : ValEnd W k n s e w') : ∃ A c, e = .returned (.tuple #[.slice A (valL k n s).length c, .int .i64 (checkN k n s)]) ∧ SlB w' w'.heap.size A (valL k n s) ∧ Below W.heap.size W w' := by
  rcases h with ⟨hm, ⟨v, rfl, ho⟩, hb⟩ | ⟨hm, rfl, hb⟩
  · obtain ⟨A, c, rfl⟩ := ownB_form ho
    unfold checkN valL
    rw [if_pos hm, if_pos hm]
    exact ⟨A, c, rfl, (SlB.of_own ho).2, hb⟩
  · unfold checkN valL
    rw [hm]
    exact ⟨none, 0, rfl, fun h => absurd rfl h, hb⟩
theorem endEnd_is {W w' : World} {l : List UInt8} {e : Ending} (h : EndEnd W l e w') : ∃ A c, e = .returned (.tuple #[.slice A (endL l).length c, .bool (endF l).isSome]) ∧ SlB w' w'.heap.size A (endL l) ∧ Below W.heap.size W w' := by
  obtain ⟨v, is, rfl, ⟨rfl, x, hx, ho⟩ | ⟨rfl, hx, rfl⟩, hb⟩ := h
  · obtain ⟨A, c, rfl⟩ := ownB_form ho
    unfold endL
    rw [hx]
    exact ⟨A, c, rfl, (SlB.of_own ho).2, hb⟩
  · unfold endL
    rw [hx]
    exact ⟨none, 0, rfl, fun h => absurd rfl h, hb⟩

set_option maxRecDepth 100000 in
set_option maxHeartbeats 4000000 in
theorem writes_any (n : Int) (A A' : Option Addr) (c c' : Nat) (l : List PartP) (b : List UInt8) (w : World) (hn : -9223372036854775808 ≤ n ∧ n ≤ 9223372036854775807) (hs : SlP w w.heap.size A l) (hs' : SlB w w.heap.size A' b) (hl : l.length ≤ 1048576) (_hm : c' ≤ maxLen)
    (hbc : b.length ≤ c') (hz : ∀ p ∈ l, p.s.size ≤ 1048576) (hok : ∀ p ∈ l, partOk p) :
    Calls Try.prog 5 #[.int .i64 n, .slice A l.length c, .slice A' b.length c'] w fun e w' => e = .returned (.bool true) ∧ Below w.heap.size w w' := by
  have HS := Lib.hid hs
  have HS' := Lib.hid hs'
  have HZ := Lib.hid hz
  have HOK := Lib.hid hok
  have HNN := Lib.hid hn
  unfold maxLen at _hm
  clear hs hs' hz hok hn
  go_enter Try.func5, Try.ntmps5
  by_cases hga : decide ((5000 : Int) < costP l) = true
  · have HGA := Lib.hid hga
    clear hga
    go_wp2_with fail
    refine (great_is A c l _ _ true HS.out hl HZ.out HGA.out).mono ?_
    rintro e w2 ⟨rfl, rfl⟩
    go_wp2
    go_ret
    exact ⟨rfl, Below.refl _ _⟩
  have HGA : Hid (decide ((5000 : Int) < costP l) = false) := by show _ = _; simpa using hga
  have hca : costP l ≤ 5000 := by have := HGA.out; rw [decide_eq_false_iff_not] at this; omega
  have HCA := Lib.hid hca
  have hla := costP_len l
  have hl5 : l.length ≤ 500 := by omega
  clear hga hca hla
  by_cases hb5 : 5000 < (b.length : Int)
  · go_wp2_with fail
    refine (great_is A c l _ _ false HS.out hl HZ.out HGA.out).mono ?_
    rintro e w2 ⟨rfl, rfl⟩
    go_wp2
    go_ret
    exact ⟨rfl, Below.refl _ _⟩
  go_wp2_with fail
  refine (great_is A c l _ _ false HS.out hl HZ.out HGA.out).mono ?_
  rintro e w2 ⟨rfl, rfl⟩
  have hb2 : b.length ≤ 20000 := by omega
  go_wp2_with fail
  refine (key_any A c l _ HS.out HCA.out HOK.out).mono ?_
  rintro e w1 he
  obtain ⟨K1, k1, rfl, hk1, hb1⟩ := keyEnd_is he
  have HK1 := Lib.hid hk1
  have HB1 := Lib.hid hb1
  have HS1 := Lib.hid ((HS.out.next hb1 (Nat.le_refl _)).more hb1.size)
  clear he hk1 hb1
  go_wp2_with fail
  refine (refKey_any A c l _ HS1.out HCA.out HOK.out).mono ?_
  rintro e w3 he
  obtain ⟨K2, k2, rfl, hk2, hb3⟩ := keyEnd_is he
  have HK2 := Lib.hid hk2
  have HK1' := Lib.hid ((HK1.out.next hb3 (Nat.le_refl _)).more hb3.size)
  have HB3 := Lib.hid (HB1.out.trans (hb3.mono HB1.out.size))
  have HS3 := Lib.hid ((HS'.out.next HB3.out (Nat.le_refl _)).more HB3.out.size)
  clear he hk2 hb3
  obtain ⟨KL, hKL⟩ : ∃ L, keyL l = L := ⟨_, rfl⟩
  obtain ⟨KN, hKN⟩ : ∃ L, keyN l = L := ⟨_, rfl⟩
  rw [hKL] at HK1' HK2
  rw [hKL, hKN]
  clear hKL hKN HK1 HS1
  go_wp2_with fail
  refine (end_any A' c' b _ HS3.out hb2 hbc).mono ?_
  rintro e w4 he
  obtain ⟨E1, e1, rfl, he1, hb4⟩ := endEnd_is he
  have HE1 := Lib.hid he1
  have HK1 := Lib.hid ((HK1'.out.next hb4 (Nat.le_refl _)).more hb4.size)
  have HK3 := Lib.hid ((HK2.out.next hb4 (Nat.le_refl _)).more hb4.size)
  have HB4 := Lib.hid (HB3.out.trans (hb4.mono HB3.out.size))
  have HS4 := Lib.hid ((HS'.out.next HB4.out (Nat.le_refl _)).more HB4.out.size)
  clear he he1 hb4 HK1' HK2 HS3
  go_wp2_with fail
  refine (refEnd_any A' c' b _ HS4.out hb2 hbc).mono ?_
  rintro e w5 he
  obtain ⟨E2, e2, rfl, he2, hb5'⟩ := endEnd_is he
  have HE2 := Lib.hid he2
  have HE3 := Lib.hid ((HE1.out.next hb5' (Nat.le_refl _)).more hb5'.size)
  have HK4 := Lib.hid ((HK1.out.next hb5' (Nat.le_refl _)).more hb5'.size)
  have HK5 := Lib.hid ((HK3.out.next hb5' (Nat.le_refl _)).more hb5'.size)
  have HB5 := Lib.hid (HB4.out.trans (hb5'.mono HB4.out.size))
  clear he he2 hb5' HK1 HK3 HE1 HS4
  obtain ⟨EL, hEL⟩ : ∃ L, endL b = L := ⟨_, rfl⟩
  obtain ⟨ES, hES⟩ : ∃ L, (endF b).isSome = L := ⟨_, rfl⟩
  rw [hEL] at HE2 HE3
  rw [hEL, hES]
  clear hEL hES
  go_wp2
  go_loopg [15, 16, 17, 18, 19] l.length (fun g x _ _ _ _ wr => ∃ j : Nat, x = .int .i64 j ∧ j + g = l.length ∧ Hid (Below w5.heap.size w5 wr) ∧ w5.heap.size ≤ wr.heap.size)
  case atStart => exact ⟨0, rfl, by omega, Below.refl _ _, Nat.le_refl _⟩
  case round =>
    obtain ⟨j, rfl, hj, HBr, hszr⟩ := hrel
    cases gk with
    | succ g =>
      have hi1 : (j : Int) < (l.length : Int) := by omega
      have h1 : j < l.length := by omega
      have HBw := Lib.hid (HB5.out.trans (HBr.out.mono HB5.out.size))
      have hoa := HOK.out _ (List.getElem_mem h1)
      have hsa : l[j].s.size ≤ 5000 := by have := HCA.out; have := costP_mem (List.getElem_mem h1); omega
      obtain ⟨p0, o, rfl, hlt, hp⟩ := HS.out.at_ h1
      obtain ⟨p, hpe⟩ : ∃ p, l[j] = p := ⟨_, rfl⟩
      rw [hpe] at hoa hsa hp
      have HP := Lib.hid hp
      have HOa := Lib.hid hoa
      clear hp hoa hpe
      have hpr := HP.out.next HBw.out hlt
      have a2 := hpr.c2
      have a3 := hpr.c3
      have a4 := hpr.c4
      clear hpr
      go_wp2_with fail
      refine (value_any p.k p.m p.s _ hsa HOa.out.2.1 HOa.out.2.2).mono ?_
      rintro e w6 he
      obtain ⟨V1, v1, rfl, hv1, hb6⟩ := valEnd_is he
      have HV1 := Lib.hid hv1
      have HBw6 := Lib.hid (HBw.out.trans (hb6.mono HBw.out.size))
      have HBr6 := Lib.hid (HBr.out.trans (hb6.mono hszr))
      clear he hv1 hb6 a2 a3 a4
      have hpr := HP.out.next HBw6.out hlt
      have a2 := hpr.c2
      have a3 := hpr.c3
      have a4 := hpr.c4
      clear hpr
      go_wp2_with fail
      refine (refValue_any p.k p.m p.s _ hsa HOa.out.2.1 HOa.out.2.2).mono ?_
      rintro e w7 he
      obtain ⟨V2, v2, rfl, hv2, hb7⟩ := valEnd_is he
      have hs1 := slB_string (HV1.out.next hb7 (Nat.le_refl _)) v1
      have hs2 := slB_string hv2 v2
      have HBr7 := Lib.hid (HBr6.out.trans (hb7.mono HBr6.out.size))
      clear he hv2 hb7 a2 a3 a4
      obtain ⟨VL, hVL⟩ : ∃ L, valL p.k p.m p.s = L := ⟨_, rfl⟩
      obtain ⟨VN, hVN⟩ : ∃ L, checkN p.k p.m p.s = L := ⟨_, rfl⟩
      rw [hVL] at hs1 hs2
      rw [hVL, hVN]
      clear hVL hVN HV1
      go_wp2
      go_roundg g
      case measure => omega
      case rel => exact ⟨j + 1, by go_num, by omega, HBr7.out, HBr7.out.size⟩
    | zero =>
      have hi1 : ¬ (j : Int) < (l.length : Int) := by omega
      have HBw := Lib.hid (HB5.out.trans (HBr.out.mono HB5.out.size))
      have X1 := Lib.hid ((HK4.out.next HBr.out (Nat.le_refl _)).more HBr.out.size)
      have X2 := Lib.hid ((HK5.out.next HBr.out (Nat.le_refl _)).more HBr.out.size)
      have X3 := Lib.hid ((HE3.out.next HBr.out (Nat.le_refl _)).more HBr.out.size)
      have X4 := Lib.hid ((HE2.out.next HBr.out (Nat.le_refl _)).more HBr.out.size)
      clear HK4 HK5 HE3 HE2
      go_wp2_with fail
      have HNL := Lib.hid (numB_len n)
      obtain ⟨NL, hNL⟩ : ∃ L, numB n = L := ⟨_, rfl⟩
      rw [hNL] at HNL
      have HNLe := Lib.hid hNL
      clear hNL
      refine wp_region_held_drew (S := fun W => Below wr.heap.size wr W) (by kernel_rfl) ((Below.refl _ wr).drew) (fun hHeld => ?_)
      refine takeV 0 (some 81) ((.int .i64 n)) rfl rfl (by kernel_rfl) (by kernel_rfl) (by kernel_rfl) (fun _ _ _ h => h) (by rfl) (by (intro _w _hSw; (try dsimp only at _hSw); go_simp)) (by assumption) ?_
      simp only [Act.put, List.setIfInBounds_toArray, List.set_cons_zero, List.set_cons_succ]
      refine takeV 3 (some 84) ((.int .i64 n)) rfl rfl (by kernel_rfl) (by kernel_rfl) (by kernel_rfl) (fun _ _ _ h => h) (by rfl) (by (intro _w _hSw; (try dsimp only at _hSw); go_simp)) (by assumption) ?_
      simp only [Act.put, List.setIfInBounds_toArray, List.set_cons_zero, List.set_cons_succ]
      refine callV 1 rfl (by kernel_rfl) (by rfl) (fun K hK => ?_)
      go_simp
      go_at_call 25
      refine (number_any n _ HNN.out.1 HNN.out.2).mono ?_
      rintro e w6 ⟨gb, rfl, hg, _, hb6⟩
      have g6 := hHeld.trans (hb6.mono hHeld.size)
      rw [HNLe.out] at hg
      have HG := Lib.hid hg
      have hgl : gb < w6.heap.size := (Array.getElem?_eq_some_iff.1 hg).1
      refine hK.out _ _ g6 (fun _ => ?_)
      have G6 := Lib.hid g6
      clear hK g6 K hHeld hb6 hg
      try simp only [Act.put, List.setIfInBounds_toArray, List.set_cons_zero, List.set_cons_succ]
      refine wpAnyH_mono (S' := fun W => Below w6.heap.size w6 W) (fun W h => G6.out.trans (h.mono G6.out.size)) _ _ _ _ ?_
      have hHeld7 : Below w6.heap.size w6 w6 := Below.refl _ _
      refine takeV 2 (some 83) ((.string ⟨NL.toArray⟩)) rfl rfl (by kernel_rfl) (by kernel_rfl) (by kernel_rfl) (fun _ _ _ h => h) (by rfl) (by (intro _w hSw; have q1 := num_string HNL.out ((hSw.block gb hgl).trans HG.out); clear hSw; go_simp)) (by assumption) ?_
      simp only [Act.put, List.setIfInBounds_toArray, List.set_cons_zero, List.set_cons_succ]
      refine callV 4 rfl (by kernel_rfl) (by rfl) (fun K hK => ?_)
      go_simp
      go_at_call 26
      refine (refNumber_any n _ HNN.out.1 HNN.out.2).mono ?_
      rintro e w8 ⟨v8, rfl, ho8, hb8⟩
      rw [HNLe.out] at ho8
      obtain ⟨Y, y, rfl⟩ := ownB_form ho8
      have X5 := Lib.hid (SlB.of_own ho8).2
      refine hK.out _ _ (hHeld7.trans hb8) (fun _ => ?_)
      have G8 := Lib.hid (G6.out.trans (hb8.mono G6.out.size))
      have G68 := Lib.hid hb8
      clear hK K hHeld7 hb8 ho8
      try simp only [Act.put, List.setIfInBounds_toArray, List.set_cons_zero, List.set_cons_succ]
      refine wpAnyH_mono (S' := fun W => Below w8.heap.size w8 W) (fun W h => G68.out.trans (h.mono G68.out.size)) _ _ _ _ ?_
      have hHeld9 : Below w8.heap.size w8 w8 := Below.refl _ _
      refine takeV 5 (some 86) ((.string ⟨NL.toArray⟩)) rfl rfl (by kernel_rfl) (by kernel_rfl) (by kernel_rfl) (fun _ _ _ h => h) (by rfl) (by (intro _w hSw; have q1 := slB_string (X5.out.next hSw (Nat.le_refl _)) y; clear hSw; go_simp)) (by assumption) ?_
      simp only [Act.put, List.setIfInBounds_toArray, List.set_cons_zero, List.set_cons_succ]
      refine takeV 6 (some 87) ((.bool true)) rfl rfl (by kernel_rfl) (by kernel_rfl) (by kernel_rfl) (fun _ _ _ h => h) (by rfl) (by (intro _w _hSw; (try dsimp only at _hSw); go_simp)) (by assumption) ?_
      simp only [Act.put, List.setIfInBounds_toArray, List.set_cons_zero, List.set_cons_succ]
      refine takeV 7 (some 88) ((.bool true)) rfl rfl (by kernel_rfl) (by kernel_rfl) (by kernel_rfl) (fun _ _ _ h => h) (by rfl) (by (intro _w _hSw; (try dsimp only at _hSw); go_simp)) (by assumption) ?_
      simp only [Act.put, List.setIfInBounds_toArray, List.set_cons_zero, List.set_cons_succ]
      refine takeV 8 (some 89) ((.slice K1 KL.length k1)) rfl rfl (by kernel_rfl) (by kernel_rfl) (by kernel_rfl) (fun _ _ _ h => h) (by rfl) (by (intro _w _hSw; (try dsimp only at _hSw); go_simp)) (by assumption) ?_
      simp only [Act.put, List.setIfInBounds_toArray, List.set_cons_zero, List.set_cons_succ]
      refine takeV 9 (some 90) ((.string ⟨KL.toArray⟩)) rfl rfl (by kernel_rfl) (by kernel_rfl) (by kernel_rfl) (fun _ _ _ h => h) (by rfl) (by (intro _w hSw; have q1 := slB_string (X1.out.next (G8.out.trans (hSw.mono G8.out.size)) (Nat.le_refl _)) k1; clear hSw; go_simp)) (by assumption) ?_
      simp only [Act.put, List.setIfInBounds_toArray, List.set_cons_zero, List.set_cons_succ]
      refine takeV 10 (some 91) ((.slice K2 KL.length k2)) rfl rfl (by kernel_rfl) (by kernel_rfl) (by kernel_rfl) (fun _ _ _ h => h) (by rfl) (by (intro _w _hSw; (try dsimp only at _hSw); go_simp)) (by assumption) ?_
      simp only [Act.put, List.setIfInBounds_toArray, List.set_cons_zero, List.set_cons_succ]
      refine takeV 11 (some 92) ((.string ⟨KL.toArray⟩)) rfl rfl (by kernel_rfl) (by kernel_rfl) (by kernel_rfl) (fun _ _ _ h => h) (by rfl) (by (intro _w hSw; have q1 := slB_string (X2.out.next (G8.out.trans (hSw.mono G8.out.size)) (Nat.le_refl _)) k2; clear hSw; go_simp)) (by assumption) ?_
      simp only [Act.put, List.setIfInBounds_toArray, List.set_cons_zero, List.set_cons_succ]
      refine takeV 12 (some 93) ((.bool true)) rfl rfl (by kernel_rfl) (by kernel_rfl) (by kernel_rfl) (fun _ _ _ h => h) (by rfl) (by (intro _w _hSw; (try dsimp only at _hSw); go_simp)) (by assumption) ?_
      simp only [Act.put, List.setIfInBounds_toArray, List.set_cons_zero, List.set_cons_succ]
      refine takeV 13 (some 94) ((.bool true)) rfl rfl (by kernel_rfl) (by kernel_rfl) (by kernel_rfl) (fun _ _ _ h => h) (by rfl) (by (intro _w _hSw; (try dsimp only at _hSw); go_simp)) (by assumption) ?_
      simp only [Act.put, List.setIfInBounds_toArray, List.set_cons_zero, List.set_cons_succ]
      refine takeV 14 (some 95) ((.bool true)) rfl rfl (by kernel_rfl) (by kernel_rfl) (by kernel_rfl) (fun _ _ _ h => h) (by rfl) (by (intro _w _hSw; (try dsimp only at _hSw); go_simp)) (by assumption) ?_
      simp only [Act.put, List.setIfInBounds_toArray, List.set_cons_zero, List.set_cons_succ]
      refine takeV 15 (some 96) ((.int .i64 KN)) rfl rfl (by kernel_rfl) (by kernel_rfl) (by kernel_rfl) (fun _ _ _ h => h) (by rfl) (by (intro _w _hSw; (try dsimp only at _hSw); go_simp)) (by assumption) ?_
      simp only [Act.put, List.setIfInBounds_toArray, List.set_cons_zero, List.set_cons_succ]
      refine takeV 16 (some 97) ((.int .i64 KN)) rfl rfl (by kernel_rfl) (by kernel_rfl) (by kernel_rfl) (fun _ _ _ h => h) (by rfl) (by (intro _w _hSw; (try dsimp only at _hSw); go_simp)) (by assumption) ?_
      simp only [Act.put, List.setIfInBounds_toArray, List.set_cons_zero, List.set_cons_succ]
      refine takeV 17 (some 98) ((.bool true)) rfl rfl (by kernel_rfl) (by kernel_rfl) (by kernel_rfl) (fun _ _ _ h => h) (by rfl) (by (intro _w _hSw; (try dsimp only at _hSw); go_simp)) (by assumption) ?_
      simp only [Act.put, List.setIfInBounds_toArray, List.set_cons_zero, List.set_cons_succ]
      refine takeV 18 (some 99) ((.bool true)) rfl rfl (by kernel_rfl) (by kernel_rfl) (by kernel_rfl) (fun _ _ _ h => h) (by rfl) (by (intro _w _hSw; (try dsimp only at _hSw); go_simp)) (by assumption) ?_
      simp only [Act.put, List.setIfInBounds_toArray, List.set_cons_zero, List.set_cons_succ]
      refine takeV 19 (some 100) ((.bool true)) rfl rfl (by kernel_rfl) (by kernel_rfl) (by kernel_rfl) (fun _ _ _ h => h) (by rfl) (by (intro _w _hSw; (try dsimp only at _hSw); go_simp)) (by assumption) ?_
      simp only [Act.put, List.setIfInBounds_toArray, List.set_cons_zero, List.set_cons_succ]
      refine takeV 20 (some 101) ((.slice E1 EL.length e1)) rfl rfl (by kernel_rfl) (by kernel_rfl) (by kernel_rfl) (fun _ _ _ h => h) (by rfl) (by (intro _w _hSw; (try dsimp only at _hSw); go_simp)) (by assumption) ?_
      simp only [Act.put, List.setIfInBounds_toArray, List.set_cons_zero, List.set_cons_succ]
      refine takeV 21 (some 102) ((.string ⟨EL.toArray⟩)) rfl rfl (by kernel_rfl) (by kernel_rfl) (by kernel_rfl) (fun _ _ _ h => h) (by rfl) (by (intro _w hSw; have q1 := slB_string (X3.out.next (G8.out.trans (hSw.mono G8.out.size)) (Nat.le_refl _)) e1; clear hSw; go_simp)) (by assumption) ?_
      simp only [Act.put, List.setIfInBounds_toArray, List.set_cons_zero, List.set_cons_succ]
      refine takeV 22 (some 103) ((.slice E2 EL.length e2)) rfl rfl (by kernel_rfl) (by kernel_rfl) (by kernel_rfl) (fun _ _ _ h => h) (by rfl) (by (intro _w _hSw; (try dsimp only at _hSw); go_simp)) (by assumption) ?_
      simp only [Act.put, List.setIfInBounds_toArray, List.set_cons_zero, List.set_cons_succ]
      refine takeV 23 (some 104) ((.string ⟨EL.toArray⟩)) rfl rfl (by kernel_rfl) (by kernel_rfl) (by kernel_rfl) (fun _ _ _ h => h) (by rfl) (by (intro _w hSw; have q1 := slB_string (X4.out.next (G8.out.trans (hSw.mono G8.out.size)) (Nat.le_refl _)) e2; clear hSw; go_simp)) (by assumption) ?_
      simp only [Act.put, List.setIfInBounds_toArray, List.set_cons_zero, List.set_cons_succ]
      refine takeV 24 (some 105) ((.bool true)) rfl rfl (by kernel_rfl) (by kernel_rfl) (by kernel_rfl) (fun _ _ _ h => h) (by rfl) (by (intro _w _hSw; (try dsimp only at _hSw); go_simp)) (by assumption) ?_
      simp only [Act.put, List.setIfInBounds_toArray, List.set_cons_zero, List.set_cons_succ]
      refine takeV 25 (some 106) ((.bool true)) rfl rfl (by kernel_rfl) (by kernel_rfl) (by kernel_rfl) (fun _ _ _ h => h) (by rfl) (by (intro _w _hSw; (try dsimp only at _hSw); go_simp)) (by assumption) ?_
      simp only [Act.put, List.setIfInBounds_toArray, List.set_cons_zero, List.set_cons_succ]
      refine takeV 26 (some 107) ((.bool true)) rfl rfl (by kernel_rfl) (by kernel_rfl) (by kernel_rfl) (fun _ _ _ h => h) (by rfl) (by (intro _w _hSw; (try dsimp only at _hSw); go_simp)) (by assumption) ?_
      simp only [Act.put, List.setIfInBounds_toArray, List.set_cons_zero, List.set_cons_succ]
      refine takeV 27 (some 108) ((.bool ES)) rfl rfl (by kernel_rfl) (by kernel_rfl) (by kernel_rfl) (fun _ _ _ h => h) (by rfl) (by (intro _w _hSw; (try dsimp only at _hSw); go_simp)) (by assumption) ?_
      simp only [Act.put, List.setIfInBounds_toArray, List.set_cons_zero, List.set_cons_succ]
      refine takeV 28 (some 109) ((.bool ES)) rfl rfl (by kernel_rfl) (by kernel_rfl) (by kernel_rfl) (fun _ _ _ h => h) (by rfl) (by (intro _w _hSw; (try dsimp only at _hSw); go_simp)) (by assumption) ?_
      simp only [Act.put, List.setIfInBounds_toArray, List.set_cons_zero, List.set_cons_succ]
      refine takeV 29 (some 110) ((.bool true)) rfl rfl (by kernel_rfl) (by kernel_rfl) (by kernel_rfl) (fun _ _ _ h => h) (by rfl) (by (intro _w _hSw; (try dsimp only at _hSw); go_simp)) (by assumption) ?_
      simp only [Act.put, List.setIfInBounds_toArray, List.set_cons_zero, List.set_cons_succ]
      refine takeV 30 (some 111) ((.bool true)) rfl rfl (by kernel_rfl) (by kernel_rfl) (by kernel_rfl) (fun _ _ _ h => h) (by rfl) (by (intro _w _hSw; (try dsimp only at _hSw); go_simp)) (by assumption) ?_
      simp only [Act.put, List.setIfInBounds_toArray, List.set_cons_zero, List.set_cons_succ]
      refine takeV 31 (some 6) ((.bool true)) rfl rfl (by kernel_rfl) (by kernel_rfl) (by kernel_rfl) (fun _ _ _ h => h) (by rfl) (by (intro _w _hSw; (try dsimp only at _hSw); go_simp)) (by assumption) ?_
      simp only [Act.put, List.setIfInBounds_toArray, List.set_cons_zero, List.set_cons_succ]
      refine wpAnyH_done (by kernel_rfl) ?_ _
      go_wp2
      go_ret
      exact ⟨rfl, HBw.out.trans (G8.out.mono HBw.out.size)⟩

end Go.Proofs.Ytpnjolacmkcofaa
