/-
  CONTRACTS: turnLeft.
-/
import Derived.Test.YtohpilamoglhcaaQOv
import Derived.StillTailTactics
namespace Go.Proofs.Ytohpilamoglhcaa
open Go.RowKit

/-- what even, put and the like leave: a tree that stands for a list -/
def EvEnd [LT Gb] (w : World) (L : List Pr) (e : Ending) (w' : World) : Prop :=
  ∃ t, e = .returned t.ptr ∧ TreeAt w' t ∧ t.list = L ∧ Below w.heap.size w w'
theorem ov_node [LT Gb] {w w' : World} {pb : Nat} {p : Pr} {l r : Tr} {e : Ending} (h : OvEnd w pb l r e w') (hp : PairAt w pb p) (hl : TreeAt w l) (hr : TreeAt w r) :
    ∃ b, e = .returned (.pointer (some ⟨b, 0, none⟩)) ∧ TreeAt w' (.nd b p l r) ∧ Below w.heap.size w w' := by
  obtain ⟨b, rfl, h1, h2⟩ := h
  exact ⟨b, rfl, ⟨⟨pb, h1, hp.next h2⟩, hl.next h2, hr.next h2⟩, h2⟩
theorem below_more {A B C : World} {n : Nat} (h : Below n A B) (k : Below B.heap.size B C) (hn : n ≤ B.heap.size) : Below n A C := h.trans (k.mono hn)
theorem over_tree [LT Gb] (pb : Nat) (u1 u2 : Option Addr) (n0 : Int) (p : Pr) (l r : Tr) (w : World) (hp : PairAt w pb p) (hl : TreeAt w l) (hr : TreeAt w r) (hn : l.cnt ≤ 2000000) (hm : r.cnt ≤ 2000000) :
    Calls Try.prog 80 #[.agg #[.pointer (some ⟨pb, 0, none⟩), .pointer u1, .pointer u2, .int .i64 n0], l.ptr, r.ptr] w
      fun e w' => ∃ b, e = .returned (.pointer (some ⟨b, 0, none⟩)) ∧ TreeAt w' (.nd b p l r) ∧ Below w.heap.size w w' :=
  (over_any pb u1 u2 n0 l r w hl hr hn hm).mono fun _ _ h => ov_node h hp hl hr
set_option maxRecDepth 100000 in
set_option maxHeartbeats 2000000 in
theorem turnL_a [LT Gb] (pb : Nat) (u1 u2 : Option Addr) (n0 : Int) (p : Pr) (l : Tr) (rb : Nat) (q : Pr) (ri ro : Tr) (w : World) (hp : PairAt w pb p) (hx : TreeAt w l) (hr : TreeAt w (.nd rb q ri ro))
    (hn : l.cnt + ri.cnt + ro.cnt ≤ 1000000) (hlt : ri.cnt + 1 < 2 * (ro.cnt + 1)) :
    Calls Try.prog 102 #[.agg #[.pointer (some ⟨pb, 0, none⟩), .pointer u1, .pointer u2, .int .i64 n0], l.ptr, .pointer (some ⟨rb, 0, none⟩)] w (EvEnd w (l.list ++ p :: (ri.list ++ q :: ro.list))) := by
  obtain ⟨⟨qb, hnd, hq⟩, hri, hro⟩ := hr
  have HN := Lib.hid hn
  have HW1 := Lib.hid (fun X (hX : Below w.heap.size w X) => weight_any ri X (hri.next hX) (by omega))
  have HW2 := Lib.hid (fun X (hX : Below w.heap.size w X) => weight_any ro X (hro.next hX) (by omega))
  have HO1 := Lib.hid (fun X (hX : Below w.heap.size w X) => over_tree pb u1 u2 n0 p l ri X (hp.next hX) (hx.next hX) (hri.next hX) (by omega) (by omega))
  have HO2 := Lib.hid (fun b v1 v2 m X (hX : Below w.heap.size w X) (ht : TreeAt X (.nd b p l ri)) => over_tree qb v1 v2 m q (.nd b p l ri) ro X (hq.next hX) ht (hro.next hX) (by first | omega | (simp only [Tr.cnt]; omega)) (by first | omega | (simp only [Tr.cnt]; omega)))
  have HF : Hid (∀ b1 b2 X, Below w.heap.size w X → TreeAt X (.nd b2 q (.nd b1 p l ri) ro) → EvEnd w (l.list ++ p :: (ri.list ++ q :: ro.list)) (.returned (.pointer (some ⟨b2, 0, none⟩))) X) := fun b1 b2 X hX ht => ⟨_, rfl, ht, by simp [Tr.list], hX⟩
  obtain ⟨ux, hux⟩ := l.ptr_pointer
  obtain ⟨uo, huo⟩ := ro.ptr_pointer
  obtain ⟨ui, hui⟩ := ri.ptr_pointer
  rw [hui] at HW1
  rw [hux, hui] at HO1
  rw [huo] at HO2 HW2
  rw [hui, huo] at hnd
  rw [hux]
  have HND := Lib.hid hnd
  clear hp hx hq hri hro hux huo hnd hn hui
  go_enter Try.func102, Try.ntmps102
  go_wp2_with fail
  obtain ⟨wb, hwb⟩ : ∃ X, w.alloc (.cells #[.pointer (some ⟨pb, 0, none⟩), .pointer u1, .pointer u2, .int .i64 n0] 132) = X := ⟨_, rfl⟩
  have HB : Hid (Below w.heap.size w wb) := by show Below _ _ _; rw [← hwb]; exact (Below.refl _ _).alloc (Nat.le_refl _) _
  have HBX : Hid (NodeAt wb w.heap.size pb (.pointer u1) (.pointer u2) n0) := by show NodeAt _ _ _ _ _ _; rw [← hwb]; exact heap_alloc_new w _
  rw [hwb]
  clear hwb
  have hnb := HND.out.next HB.out (Nat.le_refl _)
  have c1 := hnb.c1
  have c2 := hnb.c2
  go_quiet (fail)
  obtain ⟨wd, hwd⟩ : ∃ X, wb.drewN nq = X := ⟨_, rfl⟩
  have hbd : Below wb.heap.size wb wd := by rw [← hwd]; exact qb_dn (Below.refl _ _) nq
  have HB2 := Lib.hid (below_more HB.out hbd HB.out.size)
  have HBX2 := Lib.hid (HBX.out.next hbd (Nat.le_refl _))
  rw [hwd]
  clear hwd hbd hnb c1 c2 HB HBX
  have hn1 := HN.out
  have hlt' : decide (((ri.cnt : Int) + 1) < 2 * ((ro.cnt : Int) + 1)) = true := decide_eq_true (by omega)
  go_wp2_with fail
  refine (HW1.out _ HB2.out).mono ?_
  rintro e w' ⟨rfl, rfl⟩
  go_wp2_with fail
  refine (HW2.out _ HB2.out).mono ?_
  rintro e w' ⟨rfl, rfl⟩
  go_wp2_with fail
  have HND2 := Lib.hid (HND.out.next HB2.out (Nat.le_refl _))
  clear hlt' HW1 HW2 HND hn1
  have HS0 := Lib.hid (qb_dn (Below.refl wd.heap.size wd) 1)
  obtain ⟨we, hwe⟩ : ∃ X, wd.drew = X := ⟨_, rfl⟩
  refine wp_region_held_drew (S := fun X => Below wd.heap.size wd X) (by kernel_rfl) HS0.out (fun hHeld => ?_)
  rw [hwe] at hHeld ⊢
  clear hwe HS0
  have HX0 := Lib.hid (below_more HB2.out hHeld HB2.out.size)
  refine takeV 0 (some 23) ((.pointer (some ⟨rb, 0, none⟩))) rfl rfl (by kernel_rfl) (by kernel_rfl) (by kernel_rfl) (fun _ _ _ h => h) (by rfl) (by (intro _w _hSw; (try dsimp only at _hSw); go_simp)) (by assumption) ?_
  simp only [Act.put, List.setIfInBounds_toArray, List.set_cons_zero, List.set_cons_succ]
  refine takeV 1 (some 24) ((.pointer (some ⟨rb, 0, none⟩))) rfl rfl (by kernel_rfl) (by kernel_rfl) (by kernel_rfl) (fun _ _ _ h => h) (by rfl) (by (intro _w _hSw; (try dsimp only at _hSw); go_simp)) (by assumption) ?_
  simp only [Act.put, List.setIfInBounds_toArray, List.set_cons_zero, List.set_cons_succ]
  refine takeV 2 (some 25) ((.agg #[.pointer (some ⟨qb, 0, none⟩), .pointer ui, .pointer uo, .int .i64 ((Tr.nd rb q ri ro).cnt : Nat)])) rfl rfl (by kernel_rfl) (by kernel_rfl) (by kernel_rfl) (fun _ _ _ h => h) (by rfl) (by (intro _w hSw; have hx := HND2.out.next hSw (Nat.le_refl _); have k0 := hx.c0; have k1 := hx.c1; have k2 := hx.c2; have k3 := hx.c3; clear hSw; go_simp)) (by assumption) ?_
  simp only [Act.put, List.setIfInBounds_toArray, List.set_cons_zero, List.set_cons_succ]
  refine takeV 3 (some 26) ((.agg #[.pointer (some ⟨pb, 0, none⟩), .pointer u1, .pointer u2, .int .i64 n0])) rfl rfl (by kernel_rfl) (by kernel_rfl) (by kernel_rfl) (fun _ _ _ h => h) (by rfl) (by (intro _w hSw; have hx := HBX2.out.next hSw (Nat.le_refl _); have k0 := hx.c0; have k1 := hx.c1; have k2 := hx.c2; have k3 := hx.c3; clear hSw; go_simp)) (by assumption) ?_
  simp only [Act.put, List.setIfInBounds_toArray, List.set_cons_zero, List.set_cons_succ]
  refine takeV 4 (some 27) ((.pointer ux)) rfl rfl (by kernel_rfl) (by kernel_rfl) (by kernel_rfl) (fun _ _ _ h => h) (by rfl) (by (intro _w _hSw; (try dsimp only at _hSw); go_simp)) (by assumption) ?_
  simp only [Act.put, List.setIfInBounds_toArray, List.set_cons_zero, List.set_cons_succ]
  refine takeV 5 (some 28) ((.pointer ui)) rfl rfl (by kernel_rfl) (by kernel_rfl) (by kernel_rfl) (fun _ _ _ h => h) (by rfl) (by (intro _w _hSw; (try dsimp only at _hSw); go_simp)) (by assumption) ?_
  simp only [Act.put, List.setIfInBounds_toArray, List.set_cons_zero, List.set_cons_succ]
  refine takeV 7 (some 30) ((.pointer uo)) rfl rfl (by kernel_rfl) (by kernel_rfl) (by kernel_rfl) (fun _ _ _ h => h) (by rfl) (by (intro _w _hSw; (try dsimp only at _hSw); go_simp)) (by assumption) ?_
  simp only [Act.put, List.setIfInBounds_toArray, List.set_cons_zero, List.set_cons_succ]
  refine callV 6 rfl (by kernel_rfl) (by rfl) (fun K hK => ?_)
  go_simp
  refine (HO1.out _ HX0.out).mono ?_
  rintro e w1 ⟨b1, rfl, ht, hb⟩
  have HT1 := Lib.hid ht
  have HY1 := Lib.hid hb
  have HX1 := Lib.hid (below_more HX0.out hb HX0.out.size)
  refine hK.out _ _ (below_more hHeld hb hHeld.size) (fun hHeld2 => ?_)
  clear hK K hHeld ht hb
  have hHeld := hHeld2
  clear hHeld2
  try simp only [Act.put, List.setIfInBounds_toArray, List.set_cons_zero, List.set_cons_succ]
  refine callV 8 rfl (by kernel_rfl) (by rfl) (fun K hK => ?_)
  go_simp
  refine (HO2.out b1 _ _ _ _ HX1.out HT1.out).mono ?_
  rintro e w2 ⟨b2, rfl, ht, hb⟩
  have HT2 := Lib.hid ht
  have HY2 := Lib.hid hb
  have HX2 := Lib.hid (below_more HX1.out hb HX1.out.size)
  refine hK.out _ _ (below_more hHeld hb hHeld.size) (fun hHeld2 => ?_)
  clear hK K hHeld ht hb
  have hHeld := hHeld2
  clear hHeld2
  try simp only [Act.put, List.setIfInBounds_toArray, List.set_cons_zero, List.set_cons_succ]
  refine takeV 9 (some 6) ((.pointer (some ⟨b2, 0, none⟩))) rfl rfl (by kernel_rfl) (by kernel_rfl) (by kernel_rfl) (fun _ _ _ h => h) (by rfl) (by (intro _w _hSw; (try dsimp only at _hSw); go_simp)) (by assumption) ?_
  simp only [Act.put, List.setIfInBounds_toArray, List.set_cons_zero, List.set_cons_succ]
  refine wpAnyH_done (by kernel_rfl) ?_ _
  go_wp2
  go_ret
  exact HF.out b1 b2 _ HX2.out HT2.out
set_option maxRecDepth 100000 in
set_option maxHeartbeats 2000000 in
theorem turnL_b [LT Gb] (pb : Nat) (u1 u2 : Option Addr) (n0 : Int) (p : Pr) (l : Tr) (rb : Nat) (q : Pr) (ib : Nat) (s : Pr) (a b ro : Tr) (w : World) (hp : PairAt w pb p) (hx : TreeAt w l) (hr : TreeAt w (.nd rb q (Tr.nd ib s a b) ro))
    (hn : l.cnt + (Tr.nd ib s a b).cnt + ro.cnt ≤ 1000000) (hlt : ¬ (Tr.nd ib s a b).cnt + 1 < 2 * (ro.cnt + 1)) :
    Calls Try.prog 102 #[.agg #[.pointer (some ⟨pb, 0, none⟩), .pointer u1, .pointer u2, .int .i64 n0], l.ptr, .pointer (some ⟨rb, 0, none⟩)] w (EvEnd w (l.list ++ p :: ((a.list ++ s :: b.list) ++ q :: ro.list))) := by
  obtain ⟨⟨qb, hnd, hq⟩, hri, hro⟩ := hr
  have hri0 := hri
  obtain ⟨⟨jb, hin, hs⟩, ha, hb⟩ := hri
  have hri := hri0
  clear hri0
  simp only [Tr.cnt] at hn
  have HN := Lib.hid hn
  have HW1 := Lib.hid (fun X (hX : Below w.heap.size w X) => weight_any (Tr.nd ib s a b) X (hri.next hX) (by simp only [Tr.cnt]; omega))
  have HW2 := Lib.hid (fun X (hX : Below w.heap.size w X) => weight_any ro X (hro.next hX) (by omega))
  have HO1 := Lib.hid (fun X (hX : Below w.heap.size w X) => over_tree pb u1 u2 n0 p l a X (hp.next hX) (hx.next hX) (ha.next hX) (by omega) (by omega))
  have HO2 := Lib.hid (fun v1 v2 m X (hX : Below w.heap.size w X) => over_tree qb v1 v2 m q b ro X (hq.next hX) (hb.next hX) (hro.next hX) (by omega) (by omega))
  have HO3 := Lib.hid (fun b1 b2 v1 v2 m X (hX : Below w.heap.size w X) (h1 : TreeAt X (.nd b1 p l a)) (h2 : TreeAt X (.nd b2 q b ro)) => over_tree jb v1 v2 m s (.nd b1 p l a) (.nd b2 q b ro) X (hs.next hX) h1 h2 (by simp only [Tr.cnt]; omega) (by simp only [Tr.cnt]; omega))
  have HF : Hid (∀ b1 b2 b3 X, Below w.heap.size w X → TreeAt X (.nd b3 s (.nd b1 p l a) (.nd b2 q b ro)) → EvEnd w (l.list ++ p :: ((a.list ++ s :: b.list) ++ q :: ro.list)) (.returned (.pointer (some ⟨b3, 0, none⟩))) X) := fun b1 b2 b3 X hX ht => ⟨_, rfl, ht, by simp [Tr.list], hX⟩
  obtain ⟨ux, hux⟩ := l.ptr_pointer
  obtain ⟨uo, huo⟩ := ro.ptr_pointer
  obtain ⟨ua, hua⟩ := a.ptr_pointer
  obtain ⟨ub, hub⟩ := b.ptr_pointer
  rw [huo] at HW2
  rw [show (Tr.nd ib s a b).ptr = .pointer (some ⟨ib, 0, none⟩) from rfl] at HW1 hnd
  rw [hux, hua] at HO1
  rw [hub, huo] at HO2
  rw [huo] at hnd
  rw [hua, hub] at hin
  rw [hux]
  have HND := Lib.hid hnd
  have HIN := Lib.hid hin
  clear hp hx hq hri hro hux huo hnd hn hua hub ha hb hs hin
  go_enter Try.func102, Try.ntmps102
  go_wp2_with fail
  obtain ⟨wb, hwb⟩ : ∃ X, w.alloc (.cells #[.pointer (some ⟨pb, 0, none⟩), .pointer u1, .pointer u2, .int .i64 n0] 132) = X := ⟨_, rfl⟩
  have HB : Hid (Below w.heap.size w wb) := by show Below _ _ _; rw [← hwb]; exact (Below.refl _ _).alloc (Nat.le_refl _) _
  have HBX : Hid (NodeAt wb w.heap.size pb (.pointer u1) (.pointer u2) n0) := by show NodeAt _ _ _ _ _ _; rw [← hwb]; exact heap_alloc_new w _
  rw [hwb]
  clear hwb
  have hnb := HND.out.next HB.out (Nat.le_refl _)
  have c1 := hnb.c1
  have c2 := hnb.c2
  go_quiet (fail)
  obtain ⟨wd, hwd⟩ : ∃ X, wb.drewN nq = X := ⟨_, rfl⟩
  have hbd : Below wb.heap.size wb wd := by rw [← hwd]; exact qb_dn (Below.refl _ _) nq
  have HB2 := Lib.hid (below_more HB.out hbd HB.out.size)
  have HBX2 := Lib.hid (HBX.out.next hbd (Nat.le_refl _))
  rw [hwd]
  clear hwd hbd hnb c1 c2 HB HBX
  have hn1 := HN.out
  have hlt0 := hlt
  clear hlt
  have hlt := hlt0
  clear hlt0
  have hlt' : decide ((((Tr.nd ib s a b).cnt : Int) + 1) < 2 * ((ro.cnt : Int) + 1)) = false := decide_eq_false (by omega)
  go_wp2_with fail
  refine (HW1.out _ HB2.out).mono ?_
  rintro e w' ⟨rfl, rfl⟩
  go_wp2_with fail
  refine (HW2.out _ HB2.out).mono ?_
  rintro e w' ⟨rfl, rfl⟩
  go_wp2_with fail
  have HND2 := Lib.hid (HND.out.next HB2.out (Nat.le_refl _))
  have HIN2 := Lib.hid (HIN.out.next HB2.out (Nat.le_refl _))
  clear HIN
  clear hlt' HW1 HW2 HND hn1
  have HS0 := Lib.hid (qb_dn (Below.refl wd.heap.size wd) 1)
  obtain ⟨we, hwe⟩ : ∃ X, wd.drew = X := ⟨_, rfl⟩
  refine wp_region_held_drew (S := fun X => Below wd.heap.size wd X) (by kernel_rfl) HS0.out (fun hHeld => ?_)
  rw [hwe] at hHeld ⊢
  clear hwe HS0
  have HX0 := Lib.hid (below_more HB2.out hHeld HB2.out.size)
  refine takeV 0 (some 32) ((.pointer (some ⟨ib, 0, none⟩))) rfl rfl (by kernel_rfl) (by kernel_rfl) (by kernel_rfl) (fun _ _ _ h => h) (by rfl) (by (intro _w _hSw; (try dsimp only at _hSw); go_simp)) (by assumption) ?_
  simp only [Act.put, List.setIfInBounds_toArray, List.set_cons_zero, List.set_cons_succ]
  refine takeV 1 (some 33) ((.pointer (some ⟨ib, 0, none⟩))) rfl rfl (by kernel_rfl) (by kernel_rfl) (by kernel_rfl) (fun _ _ _ h => h) (by rfl) (by (intro _w _hSw; (try dsimp only at _hSw); go_simp)) (by assumption) ?_
  simp only [Act.put, List.setIfInBounds_toArray, List.set_cons_zero, List.set_cons_succ]
  refine takeV 2 (some 34) ((.agg #[.pointer (some ⟨jb, 0, none⟩), .pointer ua, .pointer ub, .int .i64 ((Tr.nd ib s a b).cnt : Nat)])) rfl rfl (by kernel_rfl) (by kernel_rfl) (by kernel_rfl) (fun _ _ _ h => h) (by rfl) (by (intro _w hSw; have hx := HIN2.out.next hSw (Nat.le_refl _); have k0 := hx.c0; have k1 := hx.c1; have k2 := hx.c2; have k3 := hx.c3; clear hSw; go_simp)) (by assumption) ?_
  simp only [Act.put, List.setIfInBounds_toArray, List.set_cons_zero, List.set_cons_succ]
  refine takeV 3 (some 35) ((.agg #[.pointer (some ⟨pb, 0, none⟩), .pointer u1, .pointer u2, .int .i64 n0])) rfl rfl (by kernel_rfl) (by kernel_rfl) (by kernel_rfl) (fun _ _ _ h => h) (by rfl) (by (intro _w hSw; have hx := HBX2.out.next hSw (Nat.le_refl _); have k0 := hx.c0; have k1 := hx.c1; have k2 := hx.c2; have k3 := hx.c3; clear hSw; go_simp)) (by assumption) ?_
  simp only [Act.put, List.setIfInBounds_toArray, List.set_cons_zero, List.set_cons_succ]
  refine takeV 4 (some 36) ((.pointer ux)) rfl rfl (by kernel_rfl) (by kernel_rfl) (by kernel_rfl) (fun _ _ _ h => h) (by rfl) (by (intro _w _hSw; (try dsimp only at _hSw); go_simp)) (by assumption) ?_
  simp only [Act.put, List.setIfInBounds_toArray, List.set_cons_zero, List.set_cons_succ]
  refine takeV 5 (some 37) ((.pointer (some ⟨ib, 0, none⟩))) rfl rfl (by kernel_rfl) (by kernel_rfl) (by kernel_rfl) (fun _ _ _ h => h) (by rfl) (by (intro _w _hSw; (try dsimp only at _hSw); go_simp)) (by assumption) ?_
  simp only [Act.put, List.setIfInBounds_toArray, List.set_cons_zero, List.set_cons_succ]
  refine takeV 6 (some 38) ((.pointer (some ⟨ib, 0, none⟩))) rfl rfl (by kernel_rfl) (by kernel_rfl) (by kernel_rfl) (fun _ _ _ h => h) (by rfl) (by (intro _w _hSw; (try dsimp only at _hSw); go_simp)) (by assumption) ?_
  simp only [Act.put, List.setIfInBounds_toArray, List.set_cons_zero, List.set_cons_succ]
  refine takeV 7 (some 39) ((.pointer (some ⟨ib, 1, none⟩))) rfl rfl (by kernel_rfl) (by kernel_rfl) (by kernel_rfl) (fun _ _ _ h => h) (by rfl) (by (intro _w _hSw; (try dsimp only at _hSw); go_simp)) (by assumption) ?_
  simp only [Act.put, List.setIfInBounds_toArray, List.set_cons_zero, List.set_cons_succ]
  refine takeV 8 (some 40) ((.pointer ua)) rfl rfl (by kernel_rfl) (by kernel_rfl) (by kernel_rfl) (fun _ _ _ h => h) (by rfl) (by (intro _w hSw; have hx := HIN2.out.next hSw (Nat.le_refl _); have k0 := hx.c0; have k1 := hx.c1; have k2 := hx.c2; have k3 := hx.c3; clear hSw; go_simp)) (by assumption) ?_
  simp only [Act.put, List.setIfInBounds_toArray, List.set_cons_zero, List.set_cons_succ]
  refine takeV 10 (some 42) ((.pointer (some ⟨rb, 0, none⟩))) rfl rfl (by kernel_rfl) (by kernel_rfl) (by kernel_rfl) (fun _ _ _ h => h) (by rfl) (by (intro _w _hSw; (try dsimp only at _hSw); go_simp)) (by assumption) ?_
  simp only [Act.put, List.setIfInBounds_toArray, List.set_cons_zero, List.set_cons_succ]
  refine takeV 11 (some 43) ((.pointer (some ⟨rb, 0, none⟩))) rfl rfl (by kernel_rfl) (by kernel_rfl) (by kernel_rfl) (fun _ _ _ h => h) (by rfl) (by (intro _w _hSw; (try dsimp only at _hSw); go_simp)) (by assumption) ?_
  simp only [Act.put, List.setIfInBounds_toArray, List.set_cons_zero, List.set_cons_succ]
  refine takeV 12 (some 44) ((.agg #[.pointer (some ⟨qb, 0, none⟩), .pointer (some ⟨ib, 0, none⟩), .pointer uo, .int .i64 ((Tr.nd rb q (Tr.nd ib s a b) ro).cnt : Nat)])) rfl rfl (by kernel_rfl) (by kernel_rfl) (by kernel_rfl) (fun _ _ _ h => h) (by rfl) (by (intro _w hSw; have hx := HND2.out.next hSw (Nat.le_refl _); have k0 := hx.c0; have k1 := hx.c1; have k2 := hx.c2; have k3 := hx.c3; clear hSw; go_simp)) (by assumption) ?_
  simp only [Act.put, List.setIfInBounds_toArray, List.set_cons_zero, List.set_cons_succ]
  refine takeV 13 (some 45) ((.pointer (some ⟨ib, 0, none⟩))) rfl rfl (by kernel_rfl) (by kernel_rfl) (by kernel_rfl) (fun _ _ _ h => h) (by rfl) (by (intro _w _hSw; (try dsimp only at _hSw); go_simp)) (by assumption) ?_
  simp only [Act.put, List.setIfInBounds_toArray, List.set_cons_zero, List.set_cons_succ]
  refine takeV 14 (some 46) ((.pointer (some ⟨ib, 0, none⟩))) rfl rfl (by kernel_rfl) (by kernel_rfl) (by kernel_rfl) (fun _ _ _ h => h) (by rfl) (by (intro _w _hSw; (try dsimp only at _hSw); go_simp)) (by assumption) ?_
  simp only [Act.put, List.setIfInBounds_toArray, List.set_cons_zero, List.set_cons_succ]
  refine takeV 15 (some 47) ((.pointer (some ⟨ib, 2, none⟩))) rfl rfl (by kernel_rfl) (by kernel_rfl) (by kernel_rfl) (fun _ _ _ h => h) (by rfl) (by (intro _w _hSw; (try dsimp only at _hSw); go_simp)) (by assumption) ?_
  simp only [Act.put, List.setIfInBounds_toArray, List.set_cons_zero, List.set_cons_succ]
  refine takeV 16 (some 48) ((.pointer ub)) rfl rfl (by kernel_rfl) (by kernel_rfl) (by kernel_rfl) (fun _ _ _ h => h) (by rfl) (by (intro _w hSw; have hx := HIN2.out.next hSw (Nat.le_refl _); have k0 := hx.c0; have k1 := hx.c1; have k2 := hx.c2; have k3 := hx.c3; clear hSw; go_simp)) (by assumption) ?_
  simp only [Act.put, List.setIfInBounds_toArray, List.set_cons_zero, List.set_cons_succ]
  refine takeV 17 (some 49) ((.pointer uo)) rfl rfl (by kernel_rfl) (by kernel_rfl) (by kernel_rfl) (fun _ _ _ h => h) (by rfl) (by (intro _w _hSw; (try dsimp only at _hSw); go_simp)) (by assumption) ?_
  simp only [Act.put, List.setIfInBounds_toArray, List.set_cons_zero, List.set_cons_succ]
  refine callV 9 rfl (by kernel_rfl) (by rfl) (fun K hK => ?_)
  go_simp
  refine (HO1.out _ HX0.out).mono ?_
  rintro e w1 ⟨b1, rfl, ht, hb⟩
  have HT1 := Lib.hid ht
  have HY1 := Lib.hid hb
  have HX1 := Lib.hid (below_more HX0.out hb HX0.out.size)
  refine hK.out _ _ (below_more hHeld hb hHeld.size) (fun hHeld2 => ?_)
  clear hK K hHeld ht hb
  have hHeld := hHeld2
  clear hHeld2
  try simp only [Act.put, List.setIfInBounds_toArray, List.set_cons_zero, List.set_cons_succ]
  refine callV 18 rfl (by kernel_rfl) (by rfl) (fun K hK => ?_)
  go_simp
  refine (HO2.out _ _ _ _ HX1.out).mono ?_
  rintro e w2 ⟨b2, rfl, ht, hb⟩
  have HT2 := Lib.hid ht
  have HY2 := Lib.hid hb
  have HX2 := Lib.hid (below_more HX1.out hb HX1.out.size)
  refine hK.out _ _ (below_more hHeld hb hHeld.size) (fun hHeld2 => ?_)
  clear hK K hHeld ht hb
  have hHeld := hHeld2
  clear hHeld2
  try simp only [Act.put, List.setIfInBounds_toArray, List.set_cons_zero, List.set_cons_succ]
  have HTT := Lib.hid (HT1.out.next HY2.out)
  refine callV 19 rfl (by kernel_rfl) (by rfl) (fun K hK => ?_)
  go_simp
  refine (HO3.out b1 b2 _ _ _ _ HX2.out HTT.out HT2.out).mono ?_
  rintro e w3 ⟨b3, rfl, ht, hb⟩
  have HT3 := Lib.hid ht
  have HY3 := Lib.hid hb
  have HX3 := Lib.hid (below_more HX2.out hb HX2.out.size)
  refine hK.out _ _ (below_more hHeld hb hHeld.size) (fun hHeld2 => ?_)
  clear hK K hHeld ht hb
  have hHeld := hHeld2
  clear hHeld2
  try simp only [Act.put, List.setIfInBounds_toArray, List.set_cons_zero, List.set_cons_succ]
  refine takeV 20 (some 6) ((.pointer (some ⟨b3, 0, none⟩))) rfl rfl (by kernel_rfl) (by kernel_rfl) (by kernel_rfl) (fun _ _ _ h => h) (by rfl) (by (intro _w _hSw; (try dsimp only at _hSw); go_simp)) (by assumption) ?_
  simp only [Act.put, List.setIfInBounds_toArray, List.set_cons_zero, List.set_cons_succ]
  refine wpAnyH_done (by kernel_rfl) ?_ _
  go_wp2
  go_ret
  exact HF.out b1 b2 b3 _ HX3.out HT3.out
end Go.Proofs.Ytohpilamoglhcaa
