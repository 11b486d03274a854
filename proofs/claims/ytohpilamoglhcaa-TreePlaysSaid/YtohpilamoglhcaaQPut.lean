/-
  CONTRACTS: put.
-/
import Derived.Test.YtohpilamoglhcaaQEv
namespace Go.Proofs.Ytohpilamoglhcaa
open Go.RowKit

theorem cut_len' (l : List Pr) (k : By) : (cutL l k).length ≤ l.length := List.length_filter_le _ _
theorem put_len (l : List Pr) (p : Pr) : (putL l p).length ≤ l.length + 1 := by
  have h1 : (putL l p).length = l.countP (fun q => decide (Lt q p)) + (l.countP (fun q => decide (Lt p q)) + 1) := by
    unfold putL
    rw [List.length_append, List.length_cons, ← List.countP_eq_length_filter, ← List.countP_eq_length_filter]
  rw [h1]
  clear h1
  induction l with
  | nil => simp
  | cons x r ih =>
    rw [List.countP_cons, List.countP_cons, List.length_cons]
    by_cases c1 : Lt x p
    · have c2 := lt_not c1
      simp only [decide_eq_true c1, decide_eq_false c2, if_true, Bool.false_eq_true, if_false]
      omega
    · simp only [decide_eq_false c1, Bool.false_eq_true, if_false]
      split <;> omega
set_option maxRecDepth 100000 in
set_option maxHeartbeats 4000000 in
theorem put_any [LT Gb] (pb : Nat) (p : Pr) : ∀ (t : Tr) (w : World), TreeAt w t → PairAt w pb p → Rise t.list → t.cnt ≤ 900000 →
    Calls Try.prog 34 #[t.ptr, .pointer (some ⟨pb, 0, none⟩)] w (EvEnd w (putL t.list p)) := by
  intro t
  induction t with
  | nil =>
    intro w _ hp _ _
    have HO := Lib.hid (over_tree pb none none 0 p .nil .nil w hp trivial trivial (by simp [Tr.cnt]) (by simp [Tr.cnt]))
    clear hp
    go_enter Try.func34, Try.ntmps34
    simp only [Tr.ptr] at HO ⊢
    go_wp2_with fail
    refine HO.out.mono ?_
    rintro e w' ⟨b, rfl, ht, hb⟩
    have hf : EvEnd w (putL Tr.nil.list p) (.returned (.pointer (some ⟨b, 0, none⟩))) w' := ⟨_, rfl, ht, rfl, hb⟩
    clear ht hb HO
    go_wp2
    go_ret
    exact hf
  | nd b q l r ihl ihr =>
    intro w ht hp hR hc
    obtain ⟨⟨qb, hnd, hq⟩, htl, htr⟩ := ht
    have hnd0 := rise_nd.1 hR
    simp only [Tr.cnt] at hc
    have HR := Lib.hid hR
    have HD0 := Lib.hid hc
    have HIL := Lib.hid (fun X (hX : Below w.heap.size w X) => ihl X (htl.next hX) (hp.next hX) hnd0.1 (by omega))
    have HIR := Lib.hid (fun X (hX : Below w.heap.size w X) => ihr X (htr.next hX) (hp.next hX) hnd0.2.1 (by omega))
    have HO := Lib.hid (fun X (hX : Below w.heap.size w X) => over_tree pb none none 0 p l r X (hp.next hX) (htl.next hX) (htr.next hX) (by omega) (by omega))
    have hcl : ∀ t1 : Tr, t1.list = putL l.list p → t1.cnt ≤ l.cnt + 1 := fun t1 h => by have := put_len l.list p; rw [← h, t1.len, l.len] at this; exact this
    have hcr : ∀ t1 : Tr, t1.list = putL r.list p → t1.cnt ≤ r.cnt + 1 := fun t1 h => by have := put_len r.list p; rw [← h, t1.len, r.len] at this; exact this
    have HEL := Lib.hid (fun (hlt : Lt p q) (u1 u2 : Option Addr) (n0 : Int) (t1 : Tr) X (hX : Below w.heap.size w X) (h1 : TreeAt X t1) (h2 : t1.list = putL l.list p) =>
      (show Calls _ _ _ _ (EvEnd X (putL (l.list ++ q :: r.list) p)) by rw [put_left hR hlt, ← h2]; exact even_any qb u1 u2 n0 q t1 r X (hq.next hX) h1 (htr.next hX) (by have := hcl t1 h2; omega)))
    have HER := Lib.hid (fun (hlt : Lt q p) (u1 u2 : Option Addr) (n0 : Int) (t1 : Tr) X (hX : Below w.heap.size w X) (h1 : TreeAt X t1) (h2 : t1.list = putL r.list p) =>
      (show Calls _ _ _ _ (EvEnd X (putL (l.list ++ q :: r.list) p)) by rw [put_right hR hlt, ← h2]; exact even_any qb u1 u2 n0 q l t1 X (hq.next hX) (htl.next hX) h1 (by have := hcr t1 h2; omega)))
    obtain ⟨A, c, A', c', hpb, hpk, _⟩ := id hp
    replace hpk := hpk.1
    obtain ⟨A2, c2, A2', c2', hqb, hqk, _⟩ := id hq
    replace hqk := hqk.1
    obtain ⟨ul, hul⟩ := l.ptr_pointer
    obtain ⟨ur, hur⟩ := r.ptr_pointer
    rw [hul] at HIL
    rw [hur] at HIR HEL
    rw [hul] at HER
    rw [hul, hur] at HO hnd
    have HND := Lib.hid hnd
    have HCM := Lib.hid (fun n => (cmpB_any A A2 c c2 p.1 q.1 (w.drewN n) hpk hqk).mono (R' := fun e w' => e = .returned (.int .i64 (ordL p.1 q.1)) ∧ w' = w.drewN n) (fun _ _ h => ⟨h.1, h.2.symm⟩))
    have p0 : w.cell? ⟨pb, 0, none⟩ = some (.slice A p.1.length c) := by simp [World.cell?, hpb]
    have q0 : w.cell? ⟨qb, 0, none⟩ = some (.slice A2 q.1.length c2) := by simp [World.cell?, hqb]
    have c0 := hnd.c0
    clear ihl ihr htl htr hp hq hnd hnd0 hpb hqb hpk hqk hul hur hcl hcr hc hR
    show Calls _ _ #[.pointer (some ⟨b, 0, none⟩), _] w (EvEnd w (putL (l.list ++ q :: r.list) p))
    obtain ⟨o, ho⟩ : ∃ o, ordL p.1 q.1 = o := ⟨_, rfl⟩
    have HO9 := Lib.hid ho
    rw [ho] at HCM
    clear ho
    go_enter Try.func34, Try.ntmps34
    go_wp2_with fail
    go_quiet (refine Calls.quiet_of_same (HCM.out _))
    clear p0 q0 c0 HCM
    obtain ⟨wd, hwd⟩ : ∃ X, w.drewN nq = X := ⟨_, rfl⟩
    have HD : Hid (Below w.heap.size w wd) := by show Below _ _ _; rw [← hwd]; exact qb_dn (Below.refl _ _) nq
    have HND0 := HND
    clear HND
    have HND := Lib.hid (HND0.out.next HD.out (Nat.le_refl _))
    rw [hwd]
    clear hwd HND0
    have ho3 : o = -1 ∨ o = 0 ∨ o = 1 := by rw [← HO9.out]; exact ordL_range _ _
    by_cases g1 : o < 0
    · have HLT : Hid (Lt p q) := by show ordL _ _ = _; rw [HO9.out]; omega
      have g1' : decide (o < 0) = true := decide_eq_true g1
      go_wp2_with fail
      have HEV := Lib.hid (HEL.out HLT.out ul ur ((Tr.nd b q l r).cnt : Nat))
      clear HEL HER HO HIR g1 g1' ho3
      have HS0 := Lib.hid (qb_dn (Below.refl wd.heap.size wd) 1)
      obtain ⟨we, hwe⟩ : ∃ X, wd.drew = X := ⟨_, rfl⟩
      refine wp_region_held_drew (S := fun X => Below wd.heap.size wd X) (by kernel_rfl) HS0.out (fun hHeld => ?_)
      rw [hwe] at hHeld ⊢
      clear hwe HS0
      have HX0 := Lib.hid (below_more HD.out hHeld HD.out.size)
      refine takeV 0 (some 26) ((.pointer (some ⟨b, 0, none⟩))) rfl rfl (by kernel_rfl) (by kernel_rfl) (by kernel_rfl) (fun _ _ _ h => h) (by rfl) (by (intro _w _hSw; (try dsimp only at _hSw); go_simp)) (by assumption) ?_
      simp only [Act.put, List.setIfInBounds_toArray, List.set_cons_zero, List.set_cons_succ]
      refine takeV 1 (some 27) ((.pointer (some ⟨b, 0, none⟩))) rfl rfl (by kernel_rfl) (by kernel_rfl) (by kernel_rfl) (fun _ _ _ h => h) (by rfl) (by (intro _w _hSw; (try dsimp only at _hSw); go_simp)) (by assumption) ?_
      simp only [Act.put, List.setIfInBounds_toArray, List.set_cons_zero, List.set_cons_succ]
      refine takeV 2 (some 28) ((.agg #[.pointer (some ⟨qb, 0, none⟩), .pointer ul, .pointer ur, .int .i64 ((Tr.nd b q l r).cnt : Nat)])) rfl rfl (by kernel_rfl) (by kernel_rfl) (by kernel_rfl) (fun _ _ _ h => h) (by rfl) (by (intro _w hSw; have hx := HND.out.next hSw (Nat.le_refl _); have k0 := hx.c0; have k1 := hx.c1; have k2 := hx.c2; have k3 := hx.c3; clear hSw; go_simp)) (by assumption) ?_
      simp only [Act.put, List.setIfInBounds_toArray, List.set_cons_zero, List.set_cons_succ]
      refine takeV 3 (some 29) ((.pointer (some ⟨b, 0, none⟩))) rfl rfl (by kernel_rfl) (by kernel_rfl) (by kernel_rfl) (fun _ _ _ h => h) (by rfl) (by (intro _w _hSw; (try dsimp only at _hSw); go_simp)) (by assumption) ?_
      simp only [Act.put, List.setIfInBounds_toArray, List.set_cons_zero, List.set_cons_succ]
      refine takeV 4 (some 30) ((.pointer (some ⟨b, 0, none⟩))) rfl rfl (by kernel_rfl) (by kernel_rfl) (by kernel_rfl) (fun _ _ _ h => h) (by rfl) (by (intro _w _hSw; (try dsimp only at _hSw); go_simp)) (by assumption) ?_
      simp only [Act.put, List.setIfInBounds_toArray, List.set_cons_zero, List.set_cons_succ]
      refine takeV 5 (some 31) ((.pointer (some ⟨b, 1, none⟩))) rfl rfl (by kernel_rfl) (by kernel_rfl) (by kernel_rfl) (fun _ _ _ h => h) (by rfl) (by (intro _w _hSw; (try dsimp only at _hSw); go_simp)) (by assumption) ?_
      simp only [Act.put, List.setIfInBounds_toArray, List.set_cons_zero, List.set_cons_succ]
      refine takeV 6 (some 32) ((.pointer ul)) rfl rfl (by kernel_rfl) (by kernel_rfl) (by kernel_rfl) (fun _ _ _ h => h) (by rfl) (by (intro _w hSw; have hx := HND.out.next hSw (Nat.le_refl _); have k0 := hx.c0; have k1 := hx.c1; have k2 := hx.c2; have k3 := hx.c3; clear hSw; go_simp)) (by assumption) ?_
      simp only [Act.put, List.setIfInBounds_toArray, List.set_cons_zero, List.set_cons_succ]
      refine takeV 7 (some 33) ((.pointer (some ⟨pb, 0, none⟩))) rfl rfl (by kernel_rfl) (by kernel_rfl) (by kernel_rfl) (fun _ _ _ h => h) (by rfl) (by (intro _w _hSw; (try dsimp only at _hSw); go_simp)) (by assumption) ?_
      simp only [Act.put, List.setIfInBounds_toArray, List.set_cons_zero, List.set_cons_succ]
      refine takeV 9 (some 35) ((.pointer (some ⟨b, 0, none⟩))) rfl rfl (by kernel_rfl) (by kernel_rfl) (by kernel_rfl) (fun _ _ _ h => h) (by rfl) (by (intro _w _hSw; (try dsimp only at _hSw); go_simp)) (by assumption) ?_
      simp only [Act.put, List.setIfInBounds_toArray, List.set_cons_zero, List.set_cons_succ]
      refine takeV 10 (some 36) ((.pointer (some ⟨b, 0, none⟩))) rfl rfl (by kernel_rfl) (by kernel_rfl) (by kernel_rfl) (fun _ _ _ h => h) (by rfl) (by (intro _w _hSw; (try dsimp only at _hSw); go_simp)) (by assumption) ?_
      simp only [Act.put, List.setIfInBounds_toArray, List.set_cons_zero, List.set_cons_succ]
      refine takeV 11 (some 37) ((.pointer (some ⟨b, 2, none⟩))) rfl rfl (by kernel_rfl) (by kernel_rfl) (by kernel_rfl) (fun _ _ _ h => h) (by rfl) (by (intro _w _hSw; (try dsimp only at _hSw); go_simp)) (by assumption) ?_
      simp only [Act.put, List.setIfInBounds_toArray, List.set_cons_zero, List.set_cons_succ]
      refine takeV 12 (some 38) ((.pointer ur)) rfl rfl (by kernel_rfl) (by kernel_rfl) (by kernel_rfl) (fun _ _ _ h => h) (by rfl) (by (intro _w hSw; have hx := HND.out.next hSw (Nat.le_refl _); have k0 := hx.c0; have k1 := hx.c1; have k2 := hx.c2; have k3 := hx.c3; clear hSw; go_simp)) (by assumption) ?_
      simp only [Act.put, List.setIfInBounds_toArray, List.set_cons_zero, List.set_cons_succ]
      refine callV 8 rfl (by kernel_rfl) (by rfl) (fun K hK => ?_)
      go_simp
      refine (HIL.out _ HX0.out).mono ?_
      rintro e w1 ⟨t1, rfl, ht1, hl1, hb⟩
      have HY1 := Lib.hid hb
      have HX1 := Lib.hid (below_more HX0.out hb HX0.out.size)
      obtain ⟨u1, hu1⟩ := t1.ptr_pointer
      have HE := Lib.hid (HEV.out t1 _ HX1.out ht1 hl1)
      rw [hu1] at HE ⊢
      clear hu1 ht1 hl1
      refine hK.out _ _ (below_more hHeld hb hHeld.size) (fun hHeld2 => ?_)
      clear hK K hHeld hb
      have hHeld := hHeld2
      clear hHeld2
      try simp only [Act.put, List.setIfInBounds_toArray, List.set_cons_zero, List.set_cons_succ]
      refine callV 13 rfl (by kernel_rfl) (by rfl) (fun K hK => ?_)
      go_simp
      refine (HE.out).mono ?_
      rintro e w2 ⟨t2, rfl, ht2, hl2, hb⟩
      have HY2 := Lib.hid hb
      have HX2 := Lib.hid (below_more HX1.out hb HX1.out.size)
      obtain ⟨u2, hu2⟩ := t2.ptr_pointer
      have HFF : Hid (EvEnd w (putL (l.list ++ q :: r.list) p) (.returned (.pointer u2)) w2) := ⟨t2, by rw [hu2], ht2, hl2, HX2.out⟩
      rw [hu2]
      clear hu2 ht2 hl2 HE
      refine hK.out _ _ (below_more hHeld hb hHeld.size) (fun hHeld2 => ?_)
      clear hK K hHeld hb
      have hHeld := hHeld2
      clear hHeld2
      try simp only [Act.put, List.setIfInBounds_toArray, List.set_cons_zero, List.set_cons_succ]
      refine takeV 14 (some 4) ((.pointer u2)) rfl rfl (by kernel_rfl) (by kernel_rfl) (by kernel_rfl) (fun _ _ _ h => h) (by rfl) (by (intro _w _hSw; (try dsimp only at _hSw); go_simp)) (by assumption) ?_
      simp only [Act.put, List.setIfInBounds_toArray, List.set_cons_zero, List.set_cons_succ]
      refine wpAnyH_done (by kernel_rfl) ?_ _
      go_wp2
      go_ret
      exact HFF.out
    · have g1' : decide (o < 0) = false := decide_eq_false g1
      by_cases g2 : 0 < o
      · have HLT : Hid (Lt q p) := by show ordL _ _ = _; exact qo_one (by rw [HO9.out]; omega)
        have g2' : decide (0 < o) = true := decide_eq_true g2
        go_wp2_with fail
        have HEV := Lib.hid (HER.out HLT.out ul ur ((Tr.nd b q l r).cnt : Nat))
        clear HEL HER HO HIL g1 g1' g2 g2' ho3
        have HS0 := Lib.hid (qb_dn (Below.refl wd.heap.size wd) 1)
        obtain ⟨we, hwe⟩ : ∃ X, wd.drew = X := ⟨_, rfl⟩
        refine wp_region_held_drew (S := fun X => Below wd.heap.size wd X) (by kernel_rfl) HS0.out (fun hHeld => ?_)
        rw [hwe] at hHeld ⊢
        clear hwe HS0
        have HX0 := Lib.hid (below_more HD.out hHeld HD.out.size)
        refine takeV 0 (some 43) ((.pointer (some ⟨b, 0, none⟩))) rfl rfl (by kernel_rfl) (by kernel_rfl) (by kernel_rfl) (fun _ _ _ h => h) (by rfl) (by (intro _w _hSw; (try dsimp only at _hSw); go_simp)) (by assumption) ?_
        simp only [Act.put, List.setIfInBounds_toArray, List.set_cons_zero, List.set_cons_succ]
        refine takeV 1 (some 44) ((.pointer (some ⟨b, 0, none⟩))) rfl rfl (by kernel_rfl) (by kernel_rfl) (by kernel_rfl) (fun _ _ _ h => h) (by rfl) (by (intro _w _hSw; (try dsimp only at _hSw); go_simp)) (by assumption) ?_
        simp only [Act.put, List.setIfInBounds_toArray, List.set_cons_zero, List.set_cons_succ]
        refine takeV 2 (some 45) ((.agg #[.pointer (some ⟨qb, 0, none⟩), .pointer ul, .pointer ur, .int .i64 ((Tr.nd b q l r).cnt : Nat)])) rfl rfl (by kernel_rfl) (by kernel_rfl) (by kernel_rfl) (fun _ _ _ h => h) (by rfl) (by (intro _w hSw; have hx := HND.out.next hSw (Nat.le_refl _); have k0 := hx.c0; have k1 := hx.c1; have k2 := hx.c2; have k3 := hx.c3; clear hSw; go_simp)) (by assumption) ?_
        simp only [Act.put, List.setIfInBounds_toArray, List.set_cons_zero, List.set_cons_succ]
        refine takeV 3 (some 46) ((.pointer (some ⟨b, 0, none⟩))) rfl rfl (by kernel_rfl) (by kernel_rfl) (by kernel_rfl) (fun _ _ _ h => h) (by rfl) (by (intro _w _hSw; (try dsimp only at _hSw); go_simp)) (by assumption) ?_
        simp only [Act.put, List.setIfInBounds_toArray, List.set_cons_zero, List.set_cons_succ]
        refine takeV 4 (some 47) ((.pointer (some ⟨b, 0, none⟩))) rfl rfl (by kernel_rfl) (by kernel_rfl) (by kernel_rfl) (fun _ _ _ h => h) (by rfl) (by (intro _w _hSw; (try dsimp only at _hSw); go_simp)) (by assumption) ?_
        simp only [Act.put, List.setIfInBounds_toArray, List.set_cons_zero, List.set_cons_succ]
        refine takeV 5 (some 48) ((.pointer (some ⟨b, 1, none⟩))) rfl rfl (by kernel_rfl) (by kernel_rfl) (by kernel_rfl) (fun _ _ _ h => h) (by rfl) (by (intro _w _hSw; (try dsimp only at _hSw); go_simp)) (by assumption) ?_
        simp only [Act.put, List.setIfInBounds_toArray, List.set_cons_zero, List.set_cons_succ]
        refine takeV 6 (some 49) ((.pointer ul)) rfl rfl (by kernel_rfl) (by kernel_rfl) (by kernel_rfl) (fun _ _ _ h => h) (by rfl) (by (intro _w hSw; have hx := HND.out.next hSw (Nat.le_refl _); have k0 := hx.c0; have k1 := hx.c1; have k2 := hx.c2; have k3 := hx.c3; clear hSw; go_simp)) (by assumption) ?_
        simp only [Act.put, List.setIfInBounds_toArray, List.set_cons_zero, List.set_cons_succ]
        refine takeV 7 (some 50) ((.pointer (some ⟨b, 0, none⟩))) rfl rfl (by kernel_rfl) (by kernel_rfl) (by kernel_rfl) (fun _ _ _ h => h) (by rfl) (by (intro _w _hSw; (try dsimp only at _hSw); go_simp)) (by assumption) ?_
        simp only [Act.put, List.setIfInBounds_toArray, List.set_cons_zero, List.set_cons_succ]
        refine takeV 8 (some 51) ((.pointer (some ⟨b, 0, none⟩))) rfl rfl (by kernel_rfl) (by kernel_rfl) (by kernel_rfl) (fun _ _ _ h => h) (by rfl) (by (intro _w _hSw; (try dsimp only at _hSw); go_simp)) (by assumption) ?_
        simp only [Act.put, List.setIfInBounds_toArray, List.set_cons_zero, List.set_cons_succ]
        refine takeV 9 (some 52) ((.pointer (some ⟨b, 2, none⟩))) rfl rfl (by kernel_rfl) (by kernel_rfl) (by kernel_rfl) (fun _ _ _ h => h) (by rfl) (by (intro _w _hSw; (try dsimp only at _hSw); go_simp)) (by assumption) ?_
        simp only [Act.put, List.setIfInBounds_toArray, List.set_cons_zero, List.set_cons_succ]
        refine takeV 10 (some 53) ((.pointer ur)) rfl rfl (by kernel_rfl) (by kernel_rfl) (by kernel_rfl) (fun _ _ _ h => h) (by rfl) (by (intro _w hSw; have hx := HND.out.next hSw (Nat.le_refl _); have k0 := hx.c0; have k1 := hx.c1; have k2 := hx.c2; have k3 := hx.c3; clear hSw; go_simp)) (by assumption) ?_
        simp only [Act.put, List.setIfInBounds_toArray, List.set_cons_zero, List.set_cons_succ]
        refine takeV 11 (some 54) ((.pointer (some ⟨pb, 0, none⟩))) rfl rfl (by kernel_rfl) (by kernel_rfl) (by kernel_rfl) (fun _ _ _ h => h) (by rfl) (by (intro _w _hSw; (try dsimp only at _hSw); go_simp)) (by assumption) ?_
        simp only [Act.put, List.setIfInBounds_toArray, List.set_cons_zero, List.set_cons_succ]
        refine callV 12 rfl (by kernel_rfl) (by rfl) (fun K hK => ?_)
        go_simp
        refine (HIR.out _ HX0.out).mono ?_
        rintro e w1 ⟨t1, rfl, ht1, hl1, hb⟩
        have HY1 := Lib.hid hb
        have HX1 := Lib.hid (below_more HX0.out hb HX0.out.size)
        obtain ⟨u1, hu1⟩ := t1.ptr_pointer
        have HE := Lib.hid (HEV.out t1 _ HX1.out ht1 hl1)
        rw [hu1] at HE ⊢
        clear hu1 ht1 hl1
        refine hK.out _ _ (below_more hHeld hb hHeld.size) (fun hHeld2 => ?_)
        clear hK K hHeld hb
        have hHeld := hHeld2
        clear hHeld2
        try simp only [Act.put, List.setIfInBounds_toArray, List.set_cons_zero, List.set_cons_succ]
        refine callV 13 rfl (by kernel_rfl) (by rfl) (fun K hK => ?_)
        go_simp
        refine (HE.out).mono ?_
        rintro e w2 ⟨t2, rfl, ht2, hl2, hb⟩
        have HY2 := Lib.hid hb
        have HX2 := Lib.hid (below_more HX1.out hb HX1.out.size)
        obtain ⟨u2, hu2⟩ := t2.ptr_pointer
        have HFF : Hid (EvEnd w (putL (l.list ++ q :: r.list) p) (.returned (.pointer u2)) w2) := ⟨t2, by rw [hu2], ht2, hl2, HX2.out⟩
        rw [hu2]
        clear hu2 ht2 hl2 HE
        refine hK.out _ _ (below_more hHeld hb hHeld.size) (fun hHeld2 => ?_)
        clear hK K hHeld hb
        have hHeld := hHeld2
        clear hHeld2
        try simp only [Act.put, List.setIfInBounds_toArray, List.set_cons_zero, List.set_cons_succ]
        refine takeV 14 (some 4) ((.pointer u2)) rfl rfl (by kernel_rfl) (by kernel_rfl) (by kernel_rfl) (fun _ _ _ h => h) (by rfl) (by (intro _w _hSw; (try dsimp only at _hSw); go_simp)) (by assumption) ?_
        simp only [Act.put, List.setIfInBounds_toArray, List.set_cons_zero, List.set_cons_succ]
        refine wpAnyH_done (by kernel_rfl) ?_ _
        go_wp2
        go_ret
        exact HFF.out
      · have g2' : decide (0 < o) = false := decide_eq_false g2
        have HEQ : Hid (p.1 = q.1) := by show _ = _; exact (qo_zero _ _).1 (by rw [HO9.out]; omega)
        go_wp2_with fail
        clear HEL HER HIL HIR g1 g1' g2 g2' ho3
        have HS0 := Lib.hid (qb_dn (Below.refl wd.heap.size wd) 1)
        obtain ⟨we, hwe⟩ : ∃ X, wd.drew = X := ⟨_, rfl⟩
        refine wp_region_held_drew (S := fun X => Below wd.heap.size wd X) (by kernel_rfl) HS0.out (fun hHeld => ?_)
        rw [hwe] at hHeld ⊢
        clear hwe HS0
        have HX0 := Lib.hid (below_more HD.out hHeld HD.out.size)
        refine takeV 0 (some 57) ((.pointer (some ⟨pb, 0, none⟩))) rfl rfl (by kernel_rfl) (by kernel_rfl) (by kernel_rfl) (fun _ _ _ h => h) (by rfl) (by (intro _w _hSw; (try dsimp only at _hSw); go_simp)) (by assumption) ?_
        simp only [Act.put, List.setIfInBounds_toArray, List.set_cons_zero, List.set_cons_succ]
        refine takeV 1 (some 58) ((.agg #[.pointer (some ⟨pb, 0, none⟩), .pointer none, .pointer none, .int .i64 0])) rfl rfl (by kernel_rfl) (by kernel_rfl) (by kernel_rfl) (fun _ _ _ h => h) (by rfl) (by (intro _w _hSw; (try dsimp only at _hSw); go_simp)) (by assumption) ?_
        simp only [Act.put, List.setIfInBounds_toArray, List.set_cons_zero, List.set_cons_succ]
        refine takeV 2 (some 59) ((.pointer (some ⟨b, 0, none⟩))) rfl rfl (by kernel_rfl) (by kernel_rfl) (by kernel_rfl) (fun _ _ _ h => h) (by rfl) (by (intro _w _hSw; (try dsimp only at _hSw); go_simp)) (by assumption) ?_
        simp only [Act.put, List.setIfInBounds_toArray, List.set_cons_zero, List.set_cons_succ]
        refine takeV 3 (some 60) ((.pointer (some ⟨b, 0, none⟩))) rfl rfl (by kernel_rfl) (by kernel_rfl) (by kernel_rfl) (fun _ _ _ h => h) (by rfl) (by (intro _w _hSw; (try dsimp only at _hSw); go_simp)) (by assumption) ?_
        simp only [Act.put, List.setIfInBounds_toArray, List.set_cons_zero, List.set_cons_succ]
        refine takeV 4 (some 61) ((.pointer (some ⟨b, 1, none⟩))) rfl rfl (by kernel_rfl) (by kernel_rfl) (by kernel_rfl) (fun _ _ _ h => h) (by rfl) (by (intro _w _hSw; (try dsimp only at _hSw); go_simp)) (by assumption) ?_
        simp only [Act.put, List.setIfInBounds_toArray, List.set_cons_zero, List.set_cons_succ]
        refine takeV 5 (some 62) ((.pointer ul)) rfl rfl (by kernel_rfl) (by kernel_rfl) (by kernel_rfl) (fun _ _ _ h => h) (by rfl) (by (intro _w hSw; have hx := HND.out.next hSw (Nat.le_refl _); have k0 := hx.c0; have k1 := hx.c1; have k2 := hx.c2; have k3 := hx.c3; clear hSw; go_simp)) (by assumption) ?_
        simp only [Act.put, List.setIfInBounds_toArray, List.set_cons_zero, List.set_cons_succ]
        refine takeV 6 (some 63) ((.pointer (some ⟨b, 0, none⟩))) rfl rfl (by kernel_rfl) (by kernel_rfl) (by kernel_rfl) (fun _ _ _ h => h) (by rfl) (by (intro _w _hSw; (try dsimp only at _hSw); go_simp)) (by assumption) ?_
        simp only [Act.put, List.setIfInBounds_toArray, List.set_cons_zero, List.set_cons_succ]
        refine takeV 7 (some 64) ((.pointer (some ⟨b, 0, none⟩))) rfl rfl (by kernel_rfl) (by kernel_rfl) (by kernel_rfl) (fun _ _ _ h => h) (by rfl) (by (intro _w _hSw; (try dsimp only at _hSw); go_simp)) (by assumption) ?_
        simp only [Act.put, List.setIfInBounds_toArray, List.set_cons_zero, List.set_cons_succ]
        refine takeV 8 (some 65) ((.pointer (some ⟨b, 2, none⟩))) rfl rfl (by kernel_rfl) (by kernel_rfl) (by kernel_rfl) (fun _ _ _ h => h) (by rfl) (by (intro _w _hSw; (try dsimp only at _hSw); go_simp)) (by assumption) ?_
        simp only [Act.put, List.setIfInBounds_toArray, List.set_cons_zero, List.set_cons_succ]
        refine takeV 9 (some 66) ((.pointer ur)) rfl rfl (by kernel_rfl) (by kernel_rfl) (by kernel_rfl) (fun _ _ _ h => h) (by rfl) (by (intro _w hSw; have hx := HND.out.next hSw (Nat.le_refl _); have k0 := hx.c0; have k1 := hx.c1; have k2 := hx.c2; have k3 := hx.c3; clear hSw; go_simp)) (by assumption) ?_
        simp only [Act.put, List.setIfInBounds_toArray, List.set_cons_zero, List.set_cons_succ]
        refine callV 10 rfl (by kernel_rfl) (by rfl) (fun K hK => ?_)
        go_simp
        refine (HO.out _ HX0.out).mono ?_
        rintro e w1 ⟨b1, rfl, ht1, hb⟩
        have HY1 := Lib.hid hb
        have HX1 := Lib.hid (below_more HX0.out hb HX0.out.size)
        have HFF : Hid (EvEnd w (putL (l.list ++ q :: r.list) p) (.returned (.pointer (some ⟨b1, 0, none⟩))) w1) := ⟨_, rfl, ht1, (put_here HR.out HEQ.out).symm, HX1.out⟩
        clear ht1
        refine hK.out _ _ (below_more hHeld hb hHeld.size) (fun hHeld2 => ?_)
        clear hK K hHeld hb
        have hHeld := hHeld2
        clear hHeld2
        try simp only [Act.put, List.setIfInBounds_toArray, List.set_cons_zero, List.set_cons_succ]
        refine takeV 11 (some 4) ((.pointer (some ⟨b1, 0, none⟩))) rfl rfl (by kernel_rfl) (by kernel_rfl) (by kernel_rfl) (fun _ _ _ h => h) (by rfl) (by (intro _w _hSw; (try dsimp only at _hSw); go_simp)) (by assumption) ?_
        simp only [Act.put, List.setIfInBounds_toArray, List.set_cons_zero, List.set_cons_succ]
        refine wpAnyH_done (by kernel_rfl) ?_ _
        go_wp2
        go_ret
        exact HFF.out
end Go.Proofs.Ytohpilamoglhcaa
