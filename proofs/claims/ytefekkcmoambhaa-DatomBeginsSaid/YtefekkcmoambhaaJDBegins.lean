/-
  THE LAW DatomBegins: a key begins with a prefix just if the datom does; its walk.
-/
import Derived.Test.YtefekkcmoambhaaJDPreW
import Derived.Test.YtefekkcmoambhaaJDKeeps
namespace Go.Proofs.Ytefekkcmoambhaa
open Go.RowKit Go.Shelf

/-- keys begin as lists of parts do -/
theorem key_pre : ∀ (a b : List PartP), a.map (·.v) <+: b.map (·.v) → (∀ p ∈ a, partMay p = true ∧ partOk p) → (∀ p ∈ b, partMay p = true ∧ partOk p) → (keyB a <+: keyB b ↔ ordK a b = 0)
  | [], b, _, _, _ => by
    constructor
    · intro _; cases b <;> rfl
    · intro _; exact List.nil_prefix
  | _ :: _, [], h, _, _ => by simp at h
  | p :: a, q :: b, h, ha, hb => by
    rw [List.map_cons, List.map_cons, List.cons_prefix_cons] at h
    have ih := key_pre a b h.2 (fun x hx => ha x (by simp [hx])) (fun x hx => hb x (by simp [hx]))
    have hp := ha p (by simp)
    have hq := hb q (by simp)
    have e1 : keyB (p :: a) = partB p ++ keyB a := by unfold keyB; rw [List.flatMap_cons]
    have e2 : keyB (q :: b) = partB q ++ keyB b := by unfold keyB; rw [List.flatMap_cons]
    have hst : ∀ t, ordL (partB p ++ (keyB a ++ t)) (partB q ++ keyB b) = if ordP p q = 0 then ordL (keyB a ++ t) (keyB b) else ordP p q := fun t => part_ord h.1 hp.1 hq.1 hp.2 hq.2 _ _
    rw [e1, e2, ordK]
    constructor
    · rintro ⟨t, ht⟩
      have h1 := hst t
      rw [← List.append_assoc, ht, ordL_zero.2 rfl] at h1
      by_cases h0 : ordP p q = 0
      · rw [if_pos h0] at h1 ⊢
        exact ih.1 ⟨t, ordL_zero.1 h1.symm⟩
      · rw [if_neg h0] at h1
        exact absurd h1.symm h0
    · intro h1
      by_cases h0 : ordP p q = 0
      · rw [if_pos h0] at h1
        obtain ⟨t, ht⟩ := ih.2 h1
        have h2 := hst t
        rw [if_pos h0, ordL_zero.2 ht] at h2
        exact ⟨t, by rw [List.append_assoc]; exact ordL_zero.1 h2⟩
      · rw [if_neg h0] at h1
        exact absurd h1 h0
theorem range_pre (n : Nat) (h : n ≤ 4) : List.range n <+: List.range 7 := by
  have := List.take_prefix n (List.range 7)
  rwa [List.take_range, Nat.min_eq_left (by omega)] at this
theorem begins_key {o : Int} {l : List PartP} {d : Dat} (h0 : preE o l = 0) (hf : fitD o d = true) (hok : ∀ p ∈ l, partOk p) (hk : DatOk d) : begB o l d = decide (keyB l <+: keyD o d) := by
  have ho := fitD_isO hf
  rw [preE_yes ho] at h0
  obtain ⟨hb, hm, hl⟩ := preN_zero h0
  have hkd : ∀ i : Fin l.length, l[i].v = decide (i.val = plV o) := by
    unfold preB at hb
    rw [decide_eq_true_eq] at hb
    exact hb.2
  have hv : l.map (·.v) = (List.range l.length).map fun i => decide (i = plV o) := by
    refine List.ext_getElem (by simp) fun i h1 h2 => ?_
    rw [List.getElem_map, List.getElem_map, List.getElem_range]
    exact hkd ⟨i, by simpa using h1⟩
  have hpre : l.map (·.v) <+: (partsD o d).map (·.v) := by
    rw [hv, partsD_kinds ho]
    exact (range_pre _ hl).map _
  have hiff := key_pre l (partsD o d) hpre (fun p hp => ⟨List.all_eq_true.1 hm p hp, hok p hp⟩) (fun p hp => ⟨partsD_may (mayD_val (fitD_may hf)) p hp, partsD_ok hk p hp⟩)
  have hh : hasD o d = true := (Bool.and_eq_true_iff.1 hf).2
  refine begB_is (by rw [preE_yes ho]; exact h0) hh _ ?_
  rw [decide_eq_true_eq]
  exact hiff.symm
theorem keyDN_zero {o : Int} {d : Dat} (h : keyDN o d = 0) : fitD o d = true := by
  unfold keyDN at h
  cases ho : isO o with
  | false => rw [ho] at h; cases h
  | true =>
    cases hf : fitD o d with
    | false => rw [ho, hf] at h; cases h
    | true => rfl

/-- what the last region reads -/
def BlS (N bd : Nat) (d : Dat) (X Y : Option Addr) (P K : List UInt8) (W : World) : Prop :=
  DatAt W bd d ∧ (SlB W N X P ∧ SlB W N Y K) ∧ N ≤ W.heap.size
theorem BlS.next {N bd : Nat} {d : Dat} {X Y : Option Addr} {P K : List UInt8} {W W' : World} (h : BlS N bd d X Y P K W) (hb : Below W.heap.size W W') : BlS N bd d X Y P K W' :=
  ⟨h.1.next hb h.1.lt, ⟨h.2.1.1.next hb h.2.2, h.2.1.2.next hb h.2.2⟩, Nat.le_trans h.2.2 hb.size⟩

set_option maxRecDepth 100000 in
set_option maxHeartbeats 1000000 in
theorem dBegins_any (o : Int) (A : Option Addr) (c : Nat) (l : List PartP) (d : Dat) (w : World) (hs : SlP w w.heap.size A l) (hz : ∀ p ∈ l, p.s.size ≤ maxLen) (hlm : l.length ≤ maxLen) (hok : ∀ p ∈ l, partOk p) (hdz : d.s.size ≤ maxLen) (hdk : DatOk d) :
    Calls Try.prog 10 #[.int .i64 o, .slice A l.length c, .agg #[.int .i64 d.e, .int .i64 d.a, .int .i64 d.k, .int .i64 d.m, .string d.s, .int .i64 d.t, .bool d.add, .int .i64 d.fr, .int .i64 d.til]] w fun e w' => e = .returned (.bool true) ∧ Below w.heap.size w w' := by
  have hdz' : d.s.size ≤ 9223372036854775807 := hdz
  have hlm' : l.length ≤ 9223372036854775807 := hlm
  obtain ⟨w0, hw0⟩ : ∃ w0, w.alloc (.cells #[.int .i64 d.e, .int .i64 d.a, .int .i64 d.k, .int .i64 d.m, .string d.s, .int .i64 d.t, .bool d.add, .int .i64 d.fr, .int .i64 d.til] 42) = w0 := ⟨_, rfl⟩
  have HD0' : Hid (DatAt w0 w.heap.size d) := by rw [← hw0]; exact datAt_new w d
  have HB0' : Hid (Below w.heap.size w w0) := by rw [← hw0]; exact (Below.refl _ _).alloc (Nat.le_refl _) _
  have HW0 := Lib.hid hw0
  have HP1 := Lib.hid (fun X h => prefix_any o A c l X h hz hlm hok)
  have HKY := Lib.hid (fun X => keyD_any o d X hdz hdk)
  have hbg1 := fun X h => begins_any o A c l d X h hz hlm
  have hbk := fun h0 hf => begins_key (o := o) (l := l) (d := d) h0 hf hok hdk
  obtain ⟨bb, hbb⟩ : ∃ b, begB o l d = b := ⟨_, rfl⟩
  rw [hbb] at hbg1 hbk
  have HG1 := Lib.hid hbg1
  have HBK := Lib.hid hbk
  have HS := Lib.hid hs
  have HZ := Lib.hid hz
  clear hw0 hbg1 hbb hs hz hok hdz hlm hdk hbk
  go_enter Try.func10, Try.ntmps10
  go_upto_region 1 with (fail)
  rw [HW0.out]
  go_wp2_with fail
  refine (dAlive_any _).mono ?_
  rintro e wl ⟨rfl, hb⟩
  have HB0 := Lib.hid (HB0'.out.trans (hb.mono HB0'.out.size))
  have HD0 := Lib.hid (HD0'.out.next hb HD0'.out.lt)
  clear hb HB0' HD0' HW0
  have c4 := HD0.out.c4
  go_wp2
  go_loopg [8, 9] l.length (fun g x y wr => ∃ (n : Int) (j : Nat), x = .int .i64 n ∧ y = .int .i64 j ∧ j + g = l.length ∧ wr = wl)
  case atStart => exact ⟨_, 0, rfl, rfl, by omega, rfl⟩
  case round =>
    obtain ⟨n, j, rfl, rfl, hj, rfl⟩ := hrel
    cases gk with
    | succ g =>
      have hjz : (j : Int) < (l.length : Int) := by omega
      have hjn : j < l.length := by omega
      have hps : l[j].s.size ≤ 9223372036854775807 := HZ.out _ (List.getElem_mem hjn)
      obtain ⟨b, q, rfl, hblt, hp⟩ := (HS.out.next HB0.out (Nat.le_refl _)).at_ hjn
      obtain ⟨p, hpe⟩ : ∃ p, l[j] = p := ⟨_, rfl⟩
      rw [hpe] at hp hps
      have p4 := hp.c4
      clear hp hpe c4
      go_wp2
      go_roundg g
      case measure => omega
      case rel => exact ⟨_, j + 1, rfl, by go_num, by omega, rfl⟩
    | zero =>
      have hjz : ¬ ((j : Int) < (l.length : Int)) := by omega
      clear c4
      by_cases h6 : 6000 < n
      · go_wp2
        go_ret
        exact ⟨rfl, HB0.out⟩
      have h6' : decide (6000 < n) = false := decide_eq_false h6
      clear h6
      go_wp2_with fail
      refine (HP1.out _ ((HS.out.next HB0.out (Nat.le_refl _)).more HB0.out.size)).mono ?_
      rintro e w1 he
      obtain ⟨X, xc, rfl, hx, hxl, hxc, hb⟩ := preEnd_is he
      have HB1 := Lib.hid (HB0.out.trans (hb.mono HB0.out.size))
      have HD1 := Lib.hid (HD0.out.next hb HD0.out.lt)
      have HX := Lib.hid hx
      have hpm : (preL o l).length ≤ 9223372036854775807 := Nat.le_trans hxl hxc
      clear hb he hx hxl hxc
      have d0 := HD1.out.c0
      have d1 := HD1.out.c1
      have d2 := HD1.out.c2
      have d3 := HD1.out.c3
      have d4 := HD1.out.c4
      have d5 := HD1.out.c5
      have d6 := HD1.out.c6
      have d7 := HD1.out.c7
      have d8 := HD1.out.c8
      go_wp2_with fail
      refine (HKY.out _).mono ?_
      rintro e w2 he
      obtain ⟨Y, yc, rfl, hy, hyl, hyc, hb⟩ := dKeyEnd_is he
      have HB2 := Lib.hid (HB1.out.trans (hb.mono HB1.out.size))
      have HSS : Hid (BlS w2.heap.size w.heap.size d X Y (preL o l) (keyDL o d) w2) := ⟨HD1.out.next hb HD1.out.lt, ⟨(HX.out.next hb (Nat.le_refl _)).more hb.size, hy⟩, Nat.le_refl _⟩
      clear hb he hy HX HD1 d0 d1 d2 d3 d4 d5 d6 d7 d8
      by_cases hE : preE o l = 0
      rotate_left
      · have hq : (preE o l != 0) = true := by simpa using hE
        obtain ⟨E, hE'⟩ : ∃ K, preE o l = K := ⟨_, rfl⟩
        obtain ⟨E2, hE2⟩ : ∃ K, keyDN o d = K := ⟨_, rfl⟩
        obtain ⟨l1, hl1⟩ : ∃ K, (preL o l).length = K := ⟨_, rfl⟩
        obtain ⟨l2, hl2⟩ : ∃ K, (keyDL o d).length = K := ⟨_, rfl⟩
        rw [hE'] at hq
        rw [hE', hE2, hl1, hl2]
        clear hE hE' hE2 hl1 hl2
        go_wp2
        go_ret
        exact ⟨rfl, HB2.out⟩
      by_cases hN : keyDN o d = 0
      rotate_left
      · have hq : (keyDN o d != 0) = true := by simpa using hN
        obtain ⟨E2, hE2⟩ : ∃ K, keyDN o d = K := ⟨_, rfl⟩
        obtain ⟨l1, hl1⟩ : ∃ K, (preL o l).length = K := ⟨_, rfl⟩
        obtain ⟨l2, hl2⟩ : ∃ K, (keyDL o d).length = K := ⟨_, rfl⟩
        rw [hE2] at hq
        rw [hE, hE2, hl1, hl2]
        clear hE hN hE2 hl1 hl2
        go_wp2
        go_ret
        exact ⟨rfl, HB2.out⟩
      have hf := keyDN_zero hN
      have hbb := HBK.out hE hf
      have hL1 : preL o l = keyB l := by unfold preL; rw [if_pos hE]
      have hL2 : keyDL o d = keyD o d := by unfold keyDL; rw [if_pos hf]
      rw [hL1, hL2] at HSS
      rw [hL1] at hpm
      rw [hL2] at hyl
      rw [hL1, hL2, hE, hN]
      obtain ⟨P, hP⟩ : ∃ K, keyB l = K := ⟨_, rfl⟩
      obtain ⟨K9, hK9⟩ : ∃ K, keyD o d = K := ⟨_, rfl⟩
      rw [hP, hK9] at HSS hbb
      rw [hP] at hpm
      rw [hK9] at hyl
      rw [hP, hK9]
      have hkm : K9.length ≤ 9223372036854775807 := Nat.le_trans hyl hyc
      have hyc' : yc ≤ 9223372036854775807 := hyc
      clear hE hN hf hL1 hL2 hP hK9 hyc
      go_wp2_with fail
      have HSD : Hid (BlS w2.heap.size w.heap.size d X Y P K9 w2.drew) := HSS.out
      have HBD : Hid (Below w.heap.size w w2.drew) := HB2.out.drew
      obtain ⟨wd, hwd⟩ : ∃ wd, w2.drew = wd := ⟨_, rfl⟩
      rw [hwd] at HSD HBD
      by_cases hlen : P.length ≤ K9.length
      · have hpi : (P.length : Int) ≤ (K9.length : Int) := by omega
        have hbc : (P.length : Int) ≤ (yc : Int) := by omega
        have hb0 : (0 : Int) ≤ (P.length : Int) := by omega
        have HLT : Hid ((K9.take P.length).length = P.length) := by show _ = _; rw [List.length_take]; omega
        obtain ⟨X9, hX9⟩ : ∃ S : ByteArray, ⟨(K9.take P.length).toArray⟩ = S := ⟨_, rfl⟩
        obtain ⟨Y9, hY9⟩ : ∃ S : ByteArray, ⟨P.toArray⟩ = S := ⟨_, rfl⟩
        have HX9 := Lib.hid hX9
        have HY9 := Lib.hid hY9
        by_cases hp : P <+: K9
        · obtain rfl : bb = true := by rw [hbb]; exact decide_eq_true hp
          have hxy : X9 = Y9 := by rw [← hX9, ← hY9, (pre_take.1 hp).2]
          subst hxy
          clear hp hbb hX9 hY9 hlen
          refine wp_region_held_drew (S := BlS w2.heap.size w.heap.size d X Y P K9) (by kernel_rfl) (by rw [hwd]; exact HSD.out) (fun hHeld => ?_)
          rw [hwd] at hHeld ⊢
          clear hwd
          refine takeV 0 (some 61) ((.bool true)) rfl rfl (by kernel_rfl) (by kernel_rfl) (by kernel_rfl) (fun _ _ _ h => h) (by rfl) (by (intro _w _hSw; (try dsimp only at _hSw); go_simp)) (by assumption) ?_
          simp only [Act.put, List.setIfInBounds_toArray, List.set_cons_zero, List.set_cons_succ]
          refine takeV 1 (some 62) ((.bool true)) rfl rfl (by kernel_rfl) (by kernel_rfl) (by kernel_rfl) (fun _ _ _ h => h) (by rfl) (by (intro _w _hSw; (try dsimp only at _hSw); go_simp)) (by assumption) ?_
          simp only [Act.put, List.setIfInBounds_toArray, List.set_cons_zero, List.set_cons_succ]
          refine takeV 2 (some 63) ((.int .i64 o)) rfl rfl (by kernel_rfl) (by kernel_rfl) (by kernel_rfl) (fun _ _ _ h => h) (by rfl) (by (intro _w _hSw; (try dsimp only at _hSw); go_simp)) (by assumption) ?_
          simp only [Act.put, List.setIfInBounds_toArray, List.set_cons_zero, List.set_cons_succ]
          refine takeV 3 (some 64) ((.slice A l.length c)) rfl rfl (by kernel_rfl) (by kernel_rfl) (by kernel_rfl) (fun _ _ _ h => h) (by rfl) (by (intro _w _hSw; (try dsimp only at _hSw); go_simp)) (by assumption) ?_
          simp only [Act.put, List.setIfInBounds_toArray, List.set_cons_zero, List.set_cons_succ]
          refine takeV 4 (some 65) ((.agg #[.int .i64 d.e, .int .i64 d.a, .int .i64 d.k, .int .i64 d.m, .string d.s, .int .i64 d.t, .bool d.add, .int .i64 d.fr, .int .i64 d.til])) rfl rfl (by kernel_rfl) (by kernel_rfl) (by kernel_rfl) (fun _ _ _ h => h) (by rfl) (by (intro _w hSw; have q0 := hSw.1.c0; have q1 := hSw.1.c1; have q2 := hSw.1.c2; have q3 := hSw.1.c3; have q4 := hSw.1.c4; have q5 := hSw.1.c5; have q6 := hSw.1.c6; have q7 := hSw.1.c7; have q8 := hSw.1.c8; clear hSw; go_simp)) (by assumption) ?_
          simp only [Act.put, List.setIfInBounds_toArray, List.set_cons_zero, List.set_cons_succ]
          refine takeV 6 (some 67) ((.slice Y K9.length yc)) rfl rfl (by kernel_rfl) (by kernel_rfl) (by kernel_rfl) (fun _ _ _ h => h) (by rfl) (by (intro _w _hSw; (try dsimp only at _hSw); go_simp)) (by assumption) ?_
          simp only [Act.put, List.setIfInBounds_toArray, List.set_cons_zero, List.set_cons_succ]
          refine takeV 7 (some 68) ((.int .i64 K9.length)) rfl rfl (by kernel_rfl) (by kernel_rfl) (by kernel_rfl) (fun _ _ _ h => h) (by rfl) (by (intro _w _hSw; (try dsimp only at _hSw); go_simp)) (by assumption) ?_
          simp only [Act.put, List.setIfInBounds_toArray, List.set_cons_zero, List.set_cons_succ]
          refine takeV 8 (some 69) ((.slice X P.length xc)) rfl rfl (by kernel_rfl) (by kernel_rfl) (by kernel_rfl) (fun _ _ _ h => h) (by rfl) (by (intro _w _hSw; (try dsimp only at _hSw); go_simp)) (by assumption) ?_
          simp only [Act.put, List.setIfInBounds_toArray, List.set_cons_zero, List.set_cons_succ]
          refine takeV 9 (some 70) ((.int .i64 P.length)) rfl rfl (by kernel_rfl) (by kernel_rfl) (by kernel_rfl) (fun _ _ _ h => h) (by rfl) (by (intro _w _hSw; (try dsimp only at _hSw); go_simp)) (by assumption) ?_
          simp only [Act.put, List.setIfInBounds_toArray, List.set_cons_zero, List.set_cons_succ]
          refine takeV 10 (some 71) ((.bool true)) rfl rfl (by kernel_rfl) (by kernel_rfl) (by kernel_rfl) (fun _ _ _ h => h) (by rfl) (by (intro _w _hSw; (try dsimp only at _hSw); go_simp)) (by assumption) ?_
          simp only [Act.put, List.setIfInBounds_toArray, List.set_cons_zero, List.set_cons_succ]
          refine callV 5 rfl (by kernel_rfl) (by rfl) (fun K hK => ?_)
          go_simp
          refine (HG1.out _ ((HS.out.next HBD.out (Nat.le_refl _)).more HBD.out.size)).mono ?_
          rintro e w8 ⟨rfl, hb⟩
          have HB8 := Lib.hid (HBD.out.trans (hb.mono HBD.out.size))
          refine hK.out _ _ (BlS.next hHeld hb) (fun hHeld2 => ?_)
          clear hK K hHeld hb
          try simp only [Act.put, List.setIfInBounds_toArray, List.set_cons_zero, List.set_cons_succ]
          refine takeV 11 (some 72) ((.bool true)) rfl rfl (by kernel_rfl) (by kernel_rfl) (by kernel_rfl) (fun _ _ _ h => h) (by rfl) (by (intro _w _hSw; (try dsimp only at _hSw); go_simp)) (by assumption) ?_
          simp only [Act.put, List.setIfInBounds_toArray, List.set_cons_zero, List.set_cons_succ]
          refine takeV 12 (some 73) ((.slice Y K9.length yc)) rfl rfl (by kernel_rfl) (by kernel_rfl) (by kernel_rfl) (fun _ _ _ h => h) (by rfl) (by (intro _w _hSw; (try dsimp only at _hSw); go_simp)) (by assumption) ?_
          simp only [Act.put, List.setIfInBounds_toArray, List.set_cons_zero, List.set_cons_succ]
          refine takeV 13 (some 74) ((.slice X P.length xc)) rfl rfl (by kernel_rfl) (by kernel_rfl) (by kernel_rfl) (fun _ _ _ h => h) (by rfl) (by (intro _w _hSw; (try dsimp only at _hSw); go_simp)) (by assumption) ?_
          simp only [Act.put, List.setIfInBounds_toArray, List.set_cons_zero, List.set_cons_succ]
          refine takeV 14 (some 75) ((.int .i64 P.length)) rfl rfl (by kernel_rfl) (by kernel_rfl) (by kernel_rfl) (fun _ _ _ h => h) (by rfl) (by (intro _w _hSw; (try dsimp only at _hSw); go_simp)) (by assumption) ?_
          simp only [Act.put, List.setIfInBounds_toArray, List.set_cons_zero, List.set_cons_succ]
          refine takeV 15 (some 76) ((.slice Y P.length yc)) rfl rfl (by kernel_rfl) (by kernel_rfl) (by kernel_rfl) (fun _ _ _ h => h) (by rfl) (by (intro _w _hSw; (try dsimp only at _hSw); go_simp)) (by assumption) ?_
          simp only [Act.put, List.setIfInBounds_toArray, List.set_cons_zero, List.set_cons_succ]
          refine takeV 16 (some 77) ((.string X9)) rfl rfl (by kernel_rfl) (by kernel_rfl) (by kernel_rfl) (fun _ _ _ h => h) (by rfl) (by (intro _w hSw; have q := slB_string (hSw.2.1.2.take P.length) yc; rw [HLT.out, HX9.out] at q; clear hSw; go_simp)) (by assumption) ?_
          simp only [Act.put, List.setIfInBounds_toArray, List.set_cons_zero, List.set_cons_succ]
          refine takeV 17 (some 78) ((.slice X P.length xc)) rfl rfl (by kernel_rfl) (by kernel_rfl) (by kernel_rfl) (fun _ _ _ h => h) (by rfl) (by (intro _w _hSw; (try dsimp only at _hSw); go_simp)) (by assumption) ?_
          simp only [Act.put, List.setIfInBounds_toArray, List.set_cons_zero, List.set_cons_succ]
          refine takeV 18 (some 79) ((.string X9)) rfl rfl (by kernel_rfl) (by kernel_rfl) (by kernel_rfl) (fun _ _ _ h => h) (by rfl) (by (intro _w hSw; have q := slB_string hSw.2.1.1 xc; rw [HY9.out] at q; clear hSw; go_simp)) (by assumption) ?_
          simp only [Act.put, List.setIfInBounds_toArray, List.set_cons_zero, List.set_cons_succ]
          refine takeV 19 (some 80) ((.bool true)) rfl rfl (by kernel_rfl) (by kernel_rfl) (by kernel_rfl) (fun _ _ _ h => h) (by rfl) (by (intro _w _hSw; (try dsimp only at _hSw); go_simp)) (by assumption) ?_
          simp only [Act.put, List.setIfInBounds_toArray, List.set_cons_zero, List.set_cons_succ]
          refine takeV 20 (some 81) ((.bool true)) rfl rfl (by kernel_rfl) (by kernel_rfl) (by kernel_rfl) (fun _ _ _ h => h) (by rfl) (by (intro _w _hSw; (try dsimp only at _hSw); go_simp)) (by assumption) ?_
          simp only [Act.put, List.setIfInBounds_toArray, List.set_cons_zero, List.set_cons_succ]
          refine takeV 21 (some 82) ((.bool true)) rfl rfl (by kernel_rfl) (by kernel_rfl) (by kernel_rfl) (fun _ _ _ h => h) (by rfl) (by (intro _w _hSw; (try dsimp only at _hSw); go_simp)) (by assumption) ?_
          simp only [Act.put, List.setIfInBounds_toArray, List.set_cons_zero, List.set_cons_succ]
          refine takeV 22 (some 83) ((.bool true)) rfl rfl (by kernel_rfl) (by kernel_rfl) (by kernel_rfl) (fun _ _ _ h => h) (by rfl) (by (intro _w _hSw; (try dsimp only at _hSw); go_simp)) (by assumption) ?_
          simp only [Act.put, List.setIfInBounds_toArray, List.set_cons_zero, List.set_cons_succ]
          refine takeV 23 (some 6) ((.bool true)) rfl rfl (by kernel_rfl) (by kernel_rfl) (by kernel_rfl) (fun _ _ _ h => h) (by rfl) (by (intro _w _hSw; (try dsimp only at _hSw); go_simp)) (by assumption) ?_
          simp only [Act.put, List.setIfInBounds_toArray, List.set_cons_zero, List.set_cons_succ]
          refine wpAnyH_done (by kernel_rfl) ?_ _
          go_wp2
          go_ret
          exact ⟨rfl, HB8.out⟩
        · obtain rfl : bb = false := by rw [hbb]; exact decide_eq_false hp
          have hq : (X9.toList == Y9.toList) = false := by
            rw [beq_eq_false_iff_ne]
            intro h
            rw [← hX9, ← hY9, ByteArray.toList_eq, ByteArray.toList_eq] at h
            exact hp (pre_take.2 ⟨hlen, h⟩)
          clear hp hbb hX9 hY9 hlen
          refine wp_region_held_drew (S := BlS w2.heap.size w.heap.size d X Y P K9) (by kernel_rfl) (by rw [hwd]; exact HSD.out) (fun hHeld => ?_)
          rw [hwd] at hHeld ⊢
          clear hwd
          refine takeV 0 (some 61) ((.bool true)) rfl rfl (by kernel_rfl) (by kernel_rfl) (by kernel_rfl) (fun _ _ _ h => h) (by rfl) (by (intro _w _hSw; (try dsimp only at _hSw); go_simp)) (by assumption) ?_
          simp only [Act.put, List.setIfInBounds_toArray, List.set_cons_zero, List.set_cons_succ]
          refine takeV 1 (some 62) ((.bool true)) rfl rfl (by kernel_rfl) (by kernel_rfl) (by kernel_rfl) (fun _ _ _ h => h) (by rfl) (by (intro _w _hSw; (try dsimp only at _hSw); go_simp)) (by assumption) ?_
          simp only [Act.put, List.setIfInBounds_toArray, List.set_cons_zero, List.set_cons_succ]
          refine takeV 2 (some 63) ((.int .i64 o)) rfl rfl (by kernel_rfl) (by kernel_rfl) (by kernel_rfl) (fun _ _ _ h => h) (by rfl) (by (intro _w _hSw; (try dsimp only at _hSw); go_simp)) (by assumption) ?_
          simp only [Act.put, List.setIfInBounds_toArray, List.set_cons_zero, List.set_cons_succ]
          refine takeV 3 (some 64) ((.slice A l.length c)) rfl rfl (by kernel_rfl) (by kernel_rfl) (by kernel_rfl) (fun _ _ _ h => h) (by rfl) (by (intro _w _hSw; (try dsimp only at _hSw); go_simp)) (by assumption) ?_
          simp only [Act.put, List.setIfInBounds_toArray, List.set_cons_zero, List.set_cons_succ]
          refine takeV 4 (some 65) ((.agg #[.int .i64 d.e, .int .i64 d.a, .int .i64 d.k, .int .i64 d.m, .string d.s, .int .i64 d.t, .bool d.add, .int .i64 d.fr, .int .i64 d.til])) rfl rfl (by kernel_rfl) (by kernel_rfl) (by kernel_rfl) (fun _ _ _ h => h) (by rfl) (by (intro _w hSw; have q0 := hSw.1.c0; have q1 := hSw.1.c1; have q2 := hSw.1.c2; have q3 := hSw.1.c3; have q4 := hSw.1.c4; have q5 := hSw.1.c5; have q6 := hSw.1.c6; have q7 := hSw.1.c7; have q8 := hSw.1.c8; clear hSw; go_simp)) (by assumption) ?_
          simp only [Act.put, List.setIfInBounds_toArray, List.set_cons_zero, List.set_cons_succ]
          refine takeV 6 (some 67) ((.slice Y K9.length yc)) rfl rfl (by kernel_rfl) (by kernel_rfl) (by kernel_rfl) (fun _ _ _ h => h) (by rfl) (by (intro _w _hSw; (try dsimp only at _hSw); go_simp)) (by assumption) ?_
          simp only [Act.put, List.setIfInBounds_toArray, List.set_cons_zero, List.set_cons_succ]
          refine takeV 7 (some 68) ((.int .i64 K9.length)) rfl rfl (by kernel_rfl) (by kernel_rfl) (by kernel_rfl) (fun _ _ _ h => h) (by rfl) (by (intro _w _hSw; (try dsimp only at _hSw); go_simp)) (by assumption) ?_
          simp only [Act.put, List.setIfInBounds_toArray, List.set_cons_zero, List.set_cons_succ]
          refine takeV 8 (some 69) ((.slice X P.length xc)) rfl rfl (by kernel_rfl) (by kernel_rfl) (by kernel_rfl) (fun _ _ _ h => h) (by rfl) (by (intro _w _hSw; (try dsimp only at _hSw); go_simp)) (by assumption) ?_
          simp only [Act.put, List.setIfInBounds_toArray, List.set_cons_zero, List.set_cons_succ]
          refine takeV 9 (some 70) ((.int .i64 P.length)) rfl rfl (by kernel_rfl) (by kernel_rfl) (by kernel_rfl) (fun _ _ _ h => h) (by rfl) (by (intro _w _hSw; (try dsimp only at _hSw); go_simp)) (by assumption) ?_
          simp only [Act.put, List.setIfInBounds_toArray, List.set_cons_zero, List.set_cons_succ]
          refine takeV 10 (some 71) ((.bool true)) rfl rfl (by kernel_rfl) (by kernel_rfl) (by kernel_rfl) (fun _ _ _ h => h) (by rfl) (by (intro _w _hSw; (try dsimp only at _hSw); go_simp)) (by assumption) ?_
          simp only [Act.put, List.setIfInBounds_toArray, List.set_cons_zero, List.set_cons_succ]
          refine callV 5 rfl (by kernel_rfl) (by rfl) (fun K hK => ?_)
          go_simp
          refine (HG1.out _ ((HS.out.next HBD.out (Nat.le_refl _)).more HBD.out.size)).mono ?_
          rintro e w8 ⟨rfl, hb⟩
          have HB8 := Lib.hid (HBD.out.trans (hb.mono HBD.out.size))
          refine hK.out _ _ (BlS.next hHeld hb) (fun hHeld2 => ?_)
          clear hK K hHeld hb
          try simp only [Act.put, List.setIfInBounds_toArray, List.set_cons_zero, List.set_cons_succ]
          refine takeV 11 (some 72) ((.bool true)) rfl rfl (by kernel_rfl) (by kernel_rfl) (by kernel_rfl) (fun _ _ _ h => h) (by rfl) (by (intro _w _hSw; (try dsimp only at _hSw); go_simp)) (by assumption) ?_
          simp only [Act.put, List.setIfInBounds_toArray, List.set_cons_zero, List.set_cons_succ]
          refine takeV 12 (some 73) ((.slice Y K9.length yc)) rfl rfl (by kernel_rfl) (by kernel_rfl) (by kernel_rfl) (fun _ _ _ h => h) (by rfl) (by (intro _w _hSw; (try dsimp only at _hSw); go_simp)) (by assumption) ?_
          simp only [Act.put, List.setIfInBounds_toArray, List.set_cons_zero, List.set_cons_succ]
          refine takeV 13 (some 74) ((.slice X P.length xc)) rfl rfl (by kernel_rfl) (by kernel_rfl) (by kernel_rfl) (fun _ _ _ h => h) (by rfl) (by (intro _w _hSw; (try dsimp only at _hSw); go_simp)) (by assumption) ?_
          simp only [Act.put, List.setIfInBounds_toArray, List.set_cons_zero, List.set_cons_succ]
          refine takeV 14 (some 75) ((.int .i64 P.length)) rfl rfl (by kernel_rfl) (by kernel_rfl) (by kernel_rfl) (fun _ _ _ h => h) (by rfl) (by (intro _w _hSw; (try dsimp only at _hSw); go_simp)) (by assumption) ?_
          simp only [Act.put, List.setIfInBounds_toArray, List.set_cons_zero, List.set_cons_succ]
          refine takeV 15 (some 76) ((.slice Y P.length yc)) rfl rfl (by kernel_rfl) (by kernel_rfl) (by kernel_rfl) (fun _ _ _ h => h) (by rfl) (by (intro _w _hSw; (try dsimp only at _hSw); go_simp)) (by assumption) ?_
          simp only [Act.put, List.setIfInBounds_toArray, List.set_cons_zero, List.set_cons_succ]
          refine takeV 16 (some 77) ((.string X9)) rfl rfl (by kernel_rfl) (by kernel_rfl) (by kernel_rfl) (fun _ _ _ h => h) (by rfl) (by (intro _w hSw; have q := slB_string (hSw.2.1.2.take P.length) yc; rw [HLT.out, HX9.out] at q; clear hSw; go_simp)) (by assumption) ?_
          simp only [Act.put, List.setIfInBounds_toArray, List.set_cons_zero, List.set_cons_succ]
          refine takeV 17 (some 78) ((.slice X P.length xc)) rfl rfl (by kernel_rfl) (by kernel_rfl) (by kernel_rfl) (fun _ _ _ h => h) (by rfl) (by (intro _w _hSw; (try dsimp only at _hSw); go_simp)) (by assumption) ?_
          simp only [Act.put, List.setIfInBounds_toArray, List.set_cons_zero, List.set_cons_succ]
          refine takeV 18 (some 79) ((.string Y9)) rfl rfl (by kernel_rfl) (by kernel_rfl) (by kernel_rfl) (fun _ _ _ h => h) (by rfl) (by (intro _w hSw; have q := slB_string hSw.2.1.1 xc; rw [HY9.out] at q; clear hSw; go_simp)) (by assumption) ?_
          simp only [Act.put, List.setIfInBounds_toArray, List.set_cons_zero, List.set_cons_succ]
          refine takeV 19 (some 80) ((.bool false)) rfl rfl (by kernel_rfl) (by kernel_rfl) (by kernel_rfl) (fun _ _ _ h => h) (by rfl) (by (intro _w _hSw; (try dsimp only at _hSw); go_simp)) (by assumption) ?_
          simp only [Act.put, List.setIfInBounds_toArray, List.set_cons_zero, List.set_cons_succ]
          refine takeV 20 (some 81) ((.bool false)) rfl rfl (by kernel_rfl) (by kernel_rfl) (by kernel_rfl) (fun _ _ _ h => h) (by rfl) (by (intro _w _hSw; (try dsimp only at _hSw); go_simp)) (by assumption) ?_
          simp only [Act.put, List.setIfInBounds_toArray, List.set_cons_zero, List.set_cons_succ]
          refine takeV 21 (some 82) ((.bool true)) rfl rfl (by kernel_rfl) (by kernel_rfl) (by kernel_rfl) (fun _ _ _ h => h) (by rfl) (by (intro _w _hSw; (try dsimp only at _hSw); go_simp)) (by assumption) ?_
          simp only [Act.put, List.setIfInBounds_toArray, List.set_cons_zero, List.set_cons_succ]
          refine takeV 22 (some 83) ((.bool true)) rfl rfl (by kernel_rfl) (by kernel_rfl) (by kernel_rfl) (fun _ _ _ h => h) (by rfl) (by (intro _w _hSw; (try dsimp only at _hSw); go_simp)) (by assumption) ?_
          simp only [Act.put, List.setIfInBounds_toArray, List.set_cons_zero, List.set_cons_succ]
          refine takeV 23 (some 6) ((.bool true)) rfl rfl (by kernel_rfl) (by kernel_rfl) (by kernel_rfl) (fun _ _ _ h => h) (by rfl) (by (intro _w _hSw; (try dsimp only at _hSw); go_simp)) (by assumption) ?_
          simp only [Act.put, List.setIfInBounds_toArray, List.set_cons_zero, List.set_cons_succ]
          refine wpAnyH_done (by kernel_rfl) ?_ _
          go_wp2
          go_ret
          exact ⟨rfl, HB8.out⟩
      · have hnp : ¬ P <+: K9 := fun h => hlen h.length_le
        obtain rfl : bb = false := by rw [hbb]; exact decide_eq_false hnp
        have hpi : decide ((P.length : Int) ≤ (K9.length : Int)) = false := decide_eq_false (by omega)
        have hpn : decide (P.length ≤ K9.length) = false := decide_eq_false hlen
        clear hnp hbb hlen
        refine wp_region_held_drew (S := BlS w2.heap.size w.heap.size d X Y P K9) (by kernel_rfl) (by rw [hwd]; exact HSD.out) (fun hHeld => ?_)
        rw [hwd] at hHeld ⊢
        clear hwd
        refine takeV 0 (some 61) ((.bool true)) rfl rfl (by kernel_rfl) (by kernel_rfl) (by kernel_rfl) (fun _ _ _ h => h) (by rfl) (by (intro _w _hSw; (try dsimp only at _hSw); go_simp)) (by assumption) ?_
        simp only [Act.put, List.setIfInBounds_toArray, List.set_cons_zero, List.set_cons_succ]
        refine takeV 1 (some 62) ((.bool true)) rfl rfl (by kernel_rfl) (by kernel_rfl) (by kernel_rfl) (fun _ _ _ h => h) (by rfl) (by (intro _w _hSw; (try dsimp only at _hSw); go_simp)) (by assumption) ?_
        simp only [Act.put, List.setIfInBounds_toArray, List.set_cons_zero, List.set_cons_succ]
        refine takeV 2 (some 63) ((.int .i64 o)) rfl rfl (by kernel_rfl) (by kernel_rfl) (by kernel_rfl) (fun _ _ _ h => h) (by rfl) (by (intro _w _hSw; (try dsimp only at _hSw); go_simp)) (by assumption) ?_
        simp only [Act.put, List.setIfInBounds_toArray, List.set_cons_zero, List.set_cons_succ]
        refine takeV 3 (some 64) ((.slice A l.length c)) rfl rfl (by kernel_rfl) (by kernel_rfl) (by kernel_rfl) (fun _ _ _ h => h) (by rfl) (by (intro _w _hSw; (try dsimp only at _hSw); go_simp)) (by assumption) ?_
        simp only [Act.put, List.setIfInBounds_toArray, List.set_cons_zero, List.set_cons_succ]
        refine takeV 4 (some 65) ((.agg #[.int .i64 d.e, .int .i64 d.a, .int .i64 d.k, .int .i64 d.m, .string d.s, .int .i64 d.t, .bool d.add, .int .i64 d.fr, .int .i64 d.til])) rfl rfl (by kernel_rfl) (by kernel_rfl) (by kernel_rfl) (fun _ _ _ h => h) (by rfl) (by (intro _w hSw; have q0 := hSw.1.c0; have q1 := hSw.1.c1; have q2 := hSw.1.c2; have q3 := hSw.1.c3; have q4 := hSw.1.c4; have q5 := hSw.1.c5; have q6 := hSw.1.c6; have q7 := hSw.1.c7; have q8 := hSw.1.c8; clear hSw; go_simp)) (by assumption) ?_
        simp only [Act.put, List.setIfInBounds_toArray, List.set_cons_zero, List.set_cons_succ]
        refine takeV 6 (some 67) ((.slice Y K9.length yc)) rfl rfl (by kernel_rfl) (by kernel_rfl) (by kernel_rfl) (fun _ _ _ h => h) (by rfl) (by (intro _w _hSw; (try dsimp only at _hSw); go_simp)) (by assumption) ?_
        simp only [Act.put, List.setIfInBounds_toArray, List.set_cons_zero, List.set_cons_succ]
        refine takeV 7 (some 68) ((.int .i64 K9.length)) rfl rfl (by kernel_rfl) (by kernel_rfl) (by kernel_rfl) (fun _ _ _ h => h) (by rfl) (by (intro _w _hSw; (try dsimp only at _hSw); go_simp)) (by assumption) ?_
        simp only [Act.put, List.setIfInBounds_toArray, List.set_cons_zero, List.set_cons_succ]
        refine takeV 8 (some 69) ((.slice X P.length xc)) rfl rfl (by kernel_rfl) (by kernel_rfl) (by kernel_rfl) (fun _ _ _ h => h) (by rfl) (by (intro _w _hSw; (try dsimp only at _hSw); go_simp)) (by assumption) ?_
        simp only [Act.put, List.setIfInBounds_toArray, List.set_cons_zero, List.set_cons_succ]
        refine takeV 9 (some 70) ((.int .i64 P.length)) rfl rfl (by kernel_rfl) (by kernel_rfl) (by kernel_rfl) (fun _ _ _ h => h) (by rfl) (by (intro _w _hSw; (try dsimp only at _hSw); go_simp)) (by assumption) ?_
        simp only [Act.put, List.setIfInBounds_toArray, List.set_cons_zero, List.set_cons_succ]
        refine takeV 10 (some 71) ((.bool false)) rfl rfl (by kernel_rfl) (by kernel_rfl) (by kernel_rfl) (fun _ _ _ h => h) (by rfl) (by (intro _w _hSw; (try dsimp only at _hSw); go_simp)) (by assumption) ?_
        simp only [Act.put, List.setIfInBounds_toArray, List.set_cons_zero, List.set_cons_succ]
        refine callV 5 rfl (by kernel_rfl) (by rfl) (fun K hK => ?_)
        go_simp
        refine (HG1.out _ ((HS.out.next HBD.out (Nat.le_refl _)).more HBD.out.size)).mono ?_
        rintro e w8 ⟨rfl, hb⟩
        have HB8 := Lib.hid (HBD.out.trans (hb.mono HBD.out.size))
        refine hK.out _ _ (BlS.next hHeld hb) (fun hHeld2 => ?_)
        clear hK K hHeld hb
        try simp only [Act.put, List.setIfInBounds_toArray, List.set_cons_zero, List.set_cons_succ]
        refine takeV 11 (some 72) ((.bool false)) rfl rfl (by kernel_rfl) (by kernel_rfl) (by kernel_rfl) (fun _ _ _ h => h) (by rfl) (by (intro _w _hSw; (try dsimp only at _hSw); go_simp)) (by assumption) ?_
        simp only [Act.put, List.setIfInBounds_toArray, List.set_cons_zero, List.set_cons_succ]
        refine skipV 12 (some 73) rfl rfl (by kernel_rfl) (by kernel_rfl) (by kernel_rfl) (fun _ _ _ h => h) (by rfl) (by assumption) ?_
        simp only [Act.put, List.setIfInBounds_toArray, List.set_cons_zero, List.set_cons_succ]
        refine skipV 13 (some 74) rfl rfl (by kernel_rfl) (by kernel_rfl) (by kernel_rfl) (fun _ _ _ h => h) (by rfl) (by assumption) ?_
        simp only [Act.put, List.setIfInBounds_toArray, List.set_cons_zero, List.set_cons_succ]
        refine skipV 14 (some 75) rfl rfl (by kernel_rfl) (by kernel_rfl) (by kernel_rfl) (fun _ _ _ h => h) (by rfl) (by assumption) ?_
        simp only [Act.put, List.setIfInBounds_toArray, List.set_cons_zero, List.set_cons_succ]
        refine skipV 15 (some 76) rfl rfl (by kernel_rfl) (by kernel_rfl) (by kernel_rfl) (fun _ _ _ h => h) (by rfl) (by assumption) ?_
        simp only [Act.put, List.setIfInBounds_toArray, List.set_cons_zero, List.set_cons_succ]
        refine skipV 16 (some 77) rfl rfl (by kernel_rfl) (by kernel_rfl) (by kernel_rfl) (fun _ _ _ h => h) (by rfl) (by assumption) ?_
        simp only [Act.put, List.setIfInBounds_toArray, List.set_cons_zero, List.set_cons_succ]
        refine skipV 17 (some 78) rfl rfl (by kernel_rfl) (by kernel_rfl) (by kernel_rfl) (fun _ _ _ h => h) (by rfl) (by assumption) ?_
        simp only [Act.put, List.setIfInBounds_toArray, List.set_cons_zero, List.set_cons_succ]
        refine skipV 18 (some 79) rfl rfl (by kernel_rfl) (by kernel_rfl) (by kernel_rfl) (fun _ _ _ h => h) (by rfl) (by assumption) ?_
        simp only [Act.put, List.setIfInBounds_toArray, List.set_cons_zero, List.set_cons_succ]
        refine skipV 19 (some 80) rfl rfl (by kernel_rfl) (by kernel_rfl) (by kernel_rfl) (fun _ _ _ h => h) (by rfl) (by assumption) ?_
        simp only [Act.put, List.setIfInBounds_toArray, List.set_cons_zero, List.set_cons_succ]
        refine takeV 20 (some 81) ((.bool false)) rfl rfl (by kernel_rfl) (by kernel_rfl) (by kernel_rfl) (fun _ _ _ h => h) (by rfl) (by (intro _w _hSw; (try dsimp only at _hSw); go_simp)) (by assumption) ?_
        simp only [Act.put, List.setIfInBounds_toArray, List.set_cons_zero, List.set_cons_succ]
        refine takeV 21 (some 82) ((.bool true)) rfl rfl (by kernel_rfl) (by kernel_rfl) (by kernel_rfl) (fun _ _ _ h => h) (by rfl) (by (intro _w _hSw; (try dsimp only at _hSw); go_simp)) (by assumption) ?_
        simp only [Act.put, List.setIfInBounds_toArray, List.set_cons_zero, List.set_cons_succ]
        refine takeV 22 (some 83) ((.bool true)) rfl rfl (by kernel_rfl) (by kernel_rfl) (by kernel_rfl) (fun _ _ _ h => h) (by rfl) (by (intro _w _hSw; (try dsimp only at _hSw); go_simp)) (by assumption) ?_
        simp only [Act.put, List.setIfInBounds_toArray, List.set_cons_zero, List.set_cons_succ]
        refine takeV 23 (some 6) ((.bool true)) rfl rfl (by kernel_rfl) (by kernel_rfl) (by kernel_rfl) (fun _ _ _ h => h) (by rfl) (by (intro _w _hSw; (try dsimp only at _hSw); go_simp)) (by assumption) ?_
        simp only [Act.put, List.setIfInBounds_toArray, List.set_cons_zero, List.set_cons_succ]
        refine wpAnyH_done (by kernel_rfl) ?_ _
        go_wp2
        go_ret
        exact ⟨rfl, HB8.out⟩
end Go.Proofs.Ytefekkcmoambhaa
