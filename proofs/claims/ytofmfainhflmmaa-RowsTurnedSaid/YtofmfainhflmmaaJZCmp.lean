import Derived.Test.YtofmfainhflmmaaProg
import Derived.WalkKit
import Derived.Deep.RegionHeld3
import Derived.StillTailTactics
import Derived.Test.YtofmfainhflmmaaJZArgs
import Derived.Test.YtofmfainhflmmaaJZOrd
/-
  A DRAWN REGION, WALKED BY HAND: an operation that yields its value in every world that meets S is taken first; one whose guard is not met is passed over; a call is met by its contract. (For regions with guards that are not met, where 'go_region_held3' warns.)
-/
namespace Go.Proofs.Ytofmfainhflmmaa
open Go.RowKit

section
variable {P : Program} {ops : Array Oper} {Q : Exit → Act → World → Prop} {md : Region.Mode} {S : World → Prop}

theorem takeV {fuel : Nat} {listed : Array Bool} {a : Act} {w : World} (i : Nat) (d : Option Tmp) (v : Value) {oi : Oper} (hi : ops[i]? = some oi) (hd : oi.dst = d)
    (hs : Region.noSelect ops = true) (hf : Region.free md ops listed i = true) (hr : (Region.ready md ops listed).contains i = true)
    (hQ : ∀ c a w, Q (.panic c) (a.put d v) w → Q (.panic c) a w) (hw : Region.wanted oi (yielded ops a.tmps) = true) (hy : ∀ w, S w → (execOp a.eval oi).run P w = .ok (.value v) w) (hS : S w)
    (h : wpAnyH P md ops Q S fuel (listed.setIfInBounds i true) (a.put d v) w) : wpAnyH P md ops Q S (fuel + 1) listed a w := by
  subst hd; exact wpAnyH_take hi hs hf hr hQ (Or.inl ⟨hw, hy⟩) hS h

theorem skipV {fuel : Nat} {listed : Array Bool} {a : Act} {w : World} (i : Nat) (d : Option Tmp) {oi : Oper} (hi : ops[i]? = some oi) (hd : oi.dst = d)
    (hs : Region.noSelect ops = true) (hf : Region.free md ops listed i = true) (hr : (Region.ready md ops listed).contains i = true)
    (hQ : ∀ c a w, Q (.panic c) (a.put d undef) w → Q (.panic c) a w) (hw : Region.wanted oi (yielded ops a.tmps) = false) (hS : S w)
    (h : wpAnyH P md ops Q S fuel (listed.setIfInBounds i true) (a.put d undef) w) : wpAnyH P md ops Q S (fuel + 1) listed a w := by
  subst hd; exact wpAnyH_take hi hs hf hr hQ (Or.inr ⟨hw, rfl⟩) hS h

/-- One operation alone may come up, and it is wanted. -/
theorem callV {fuel : Nat} {listed : Array Bool} {a : Act} {w : World} (i : Nat) {oi : Oper} (hi : ops[i]? = some oi) (hr : Region.ready md ops listed = [i]) (hw : Region.wanted oi (yielded ops a.tmps) = true)
    (h : ∀ K' : Act → World → Prop, Shut (∀ a w, S w → (S w → wpAnyH P md ops Q S fuel (listed.setIfInBounds i true) a w) → K' a w) → Oper.wp P oi a w K' Q) : wpAnyH P md ops Q S (fuel + 1) listed a w :=
  wpAnyH_ready hr (by simp) (AllReadyH.cons hi (fun K' hK => by rw [if_pos hw]; exact h K' hK) AllReadyH.nil)
end

end Go.Proofs.Ytofmfainhflmmaa

/-
  CONTRACTS: how two rows stand (the program's, the document's).
-/
namespace Go.Proofs.Ytofmfainhflmmaa
open Go.RowKit
open VOrd (ordT)

theorem ord_at {l r : List Vl} {j : Nat} {x y : Vl} (h1 : l[j]? = some x) (h2 : r[j]? = some y) : ordR (l.drop j) (r.drop j) = if ordT x y = 0 then ordR (l.drop (j + 1)) (r.drop (j + 1)) else ordT x y := by
  obtain ⟨a, e1⟩ := List.getElem?_eq_some_iff.1 h1
  obtain ⟨b, e2⟩ := List.getElem?_eq_some_iff.1 h2
  rw [List.drop_eq_getElem_cons a, List.drop_eq_getElem_cons b, e1, e2]
  rfl
theorem ord_out1 {l r : List Vl} {j : Nat} (h1 : r.length ≤ j) (h2 : j < l.length) : ordR (l.drop j) (r.drop j) = 1 := by
  rw [List.drop_of_length_le h1]
  exact ordR_endr (by rw [List.length_drop]; omega)
theorem ord_out2 {l r : List Vl} {j : Nat} (h1 : l.length ≤ j) (h2 : j ≤ r.length) (h3 : j = l.length) : ordR (l.drop j) (r.drop j) = if (l.length : Int) < (r.length : Int) then -1 else 0 := by
  rw [List.drop_of_length_le h1, ordR_endl, List.length_drop]
  by_cases h : l.length < r.length
  · rw [if_pos (by omega), if_pos (by omega)]
  · rw [if_neg (by omega), if_neg (by omega)]

/-- what the comparing regions read -/
def CsV (N ba oa bb ob : Nat) (x y : Vl) (W : World) : Prop := VlAt W ba oa x ∧ VlAt W bb ob y ∧ (ba < N ∧ bb < N) ∧ N ≤ W.heap.size
theorem CsV.next {N ba oa bb ob : Nat} {x y : Vl} {W W' : World} (h : CsV N ba oa bb ob x y W) (hb : Below W.heap.size W W') : CsV N ba oa bb ob x y W' :=
  ⟨h.1.next hb (by have := h.2.2; omega), h.2.1.next hb (by have := h.2.2; omega), h.2.2.1, Nat.le_trans h.2.2.2 hb.size⟩

set_option maxRecDepth 100000 in
set_option maxHeartbeats 2000000 in
theorem cmpF_any (x y : Rw) (w : World) (hx : RwOk w w.heap.size x) (hy : RwOk w w.heap.size y) :
    Calls Try.prog 79 #[cellR x, cellR y, .func (.func 80) #[] #[]] w fun e w' => e = .returned (.int .i64 (ordR x.l y.l)) ∧ Below w.heap.size w w' := by
  have hxm := Nat.le_trans hx.c hx.m
  have hym := Nat.le_trans hy.c hy.m
  have hmx : maxLen ≤ 9223372036854775807 := by decide
  have HX := Lib.hid hx
  have HY := Lib.hid hy
  clear hx hy
  obtain ⟨A, c, l⟩ := x
  obtain ⟨A', c', r⟩ := y
  unfold cellR
  simp only at hxm hym ⊢
  go_enter Try.func79, Try.ntmps79
  go_wp2
  go_loopw [13] (fun i wr => ∃ j : Nat, j ≤ l.length ∧ j ≤ r.length ∧ i = .int .i64 j ∧ Hid (ordR (l.drop j) (r.drop j) = ordR l r) ∧ Hid (Below w.heap.size w wr)) (fun i _ => l.length - (intOf i).toNat)
  case atStart => exact ⟨0, Nat.zero_le _, Nat.zero_le _, rfl, rfl, Below.refl _ _⟩
  case round =>
    obtain ⟨j, hj, hj', rfl, HJ, HB⟩ := hrel
    by_cases h1 : j < l.length
    · have h1i : (j : Int) < (l.length : Int) := by omega
      obtain ⟨b, o, rfl, hb, hp⟩ := (HX.out.s.next HB.out (Nat.le_refl _)).at_ h1
      have hbw : b < wr.heap.size := Nat.lt_of_lt_of_le hb HB.out.size
      have hxe : l[j]? = some l[j] := List.getElem?_eq_getElem h1
      obtain ⟨u, hu⟩ : ∃ u, l[j] = u := ⟨_, rfl⟩
      rw [hu] at hp hxe
      have a0 := hp.c0
      have a1 := hp.c1
      have a2 := hp.c2
      have HBW1 : Hid (Below wr.heap.size wr (wr.alloc (.cells #[.int .i64 u.1, .int .i64 u.2.1, .string u.2.2] 24))) := (Below.refl _ _).alloc (Nat.le_refl _) _
      by_cases h2 : j < r.length
      · have h2i : ¬ (r.length : Int) ≤ (j : Int) := by omega
        obtain ⟨b', o', rfl, hb', hp'⟩ := (HY.out.s.next HB.out (Nat.le_refl _)).at_ h2
        have hye : r[j]? = some r[j] := List.getElem?_eq_getElem h2
        obtain ⟨v, hv⟩ : ∃ v, r[j] = v := ⟨_, rfl⟩
        rw [hv] at hp' hye
        have hq := hp'.next HBW1.out (Nat.lt_of_lt_of_le hb' HB.out.size)
        have d0 := hq.c0
        have d1 := hq.c1
        have d2 := hq.c2
        have HO := Lib.hid (ord_at hxe hye)
        have HC := fun W => compare_any u.1 u.2.1 u.2.2 v.1 v.2.1 v.2.2 W
        have HCC := Lib.hid HC
        clear hp hp' hq hxe hye hu hv HC
        obtain ⟨O, hO⟩ : ∃ O, ordT u v = O := ⟨_, rfl⟩
        rw [hO] at HO
        have HOO : Hid (ordV u.1 u.2.1 u.2.2 v.1 v.2.1 v.2.2 = O) := hO
        clear hO
        go_wp2_with fail
        refine (HCC.out _).mono ?_
        rintro e w2 ⟨rfl, hb2⟩
        rw [HOO.out]
        have HB2 : Hid (Below w.heap.size w w2) := HB.out.trans ((HBW1.out.trans (((Below.refl _ _).alloc HBW1.out.size _).trans (hb2.mono (by simp; omega)))).mono HB.out.size)
        clear hb2
        by_cases h0 : O = 0
        · have h0d : (O != 0) = false := by rw [h0]; rfl
          rw [if_pos h0] at HO
          clear h0
          go_wp2
          go_roundw
          case rel => exact ⟨j + 1, by omega, by omega, by go_num, HO.out.symm.trans HJ.out, HB2.out⟩
          case measure => simp [intOf]; omega
        · have h0d : (O != 0) = true := by simpa using h0
          rw [if_neg h0] at HO
          clear h0
          go_wp2
          go_ret
          exact ⟨ret_i64 (by rw [← HJ.out, HO.out]), HB2.out⟩
      · have h2i : (r.length : Int) ≤ (j : Int) := by omega
        have HO := Lib.hid (ord_out1 (l := l) (r := r) (j := j) (by omega) h1)
        clear hp hxe hu
        go_wp2
        go_ret
        exact ⟨ret_i64 (by rw [← HJ.out, HO.out]), HB.out.trans (HBW1.out.mono HB.out.size)⟩
    · have h1i : ¬ (j : Int) < (l.length : Int) := by omega
      have HO := Lib.hid (ord_out2 (l := l) (r := r) (j := j) (by omega) hj' (by omega))
      by_cases h2 : (l.length : Int) < (r.length : Int)
      · go_wp2
        go_ret
        exact ⟨ret_i64 (by rw [← HJ.out, HO.out, if_pos (by omega)]), HB.out⟩
      · go_wp2
        go_ret
        exact ⟨ret_i64 (by rw [← HJ.out, HO.out, if_neg (by omega)]), HB.out⟩

set_option maxHeartbeats 400000 in
theorem cmpR_any (x y : Rw) (w : World) (hx : RwOk w w.heap.size x) (hy : RwOk w w.heap.size y) :
    Calls Try.prog 40 #[cellR x, cellR y] w fun e w' => e = .returned (.int .i64 (ordR x.l y.l)) ∧ Below w.heap.size w w' := by
  have HC := Lib.hid (cmpF_any x y w hx hy)
  generalize hvx : cellR x = vx at HC ⊢
  generalize hvy : cellR y = vy at HC ⊢
  clear hx hy hvx hvy
  go_enter Try.func40, Try.ntmps40
  go_wp2_with fail
  refine HC.out.mono ?_
  rintro e w2 ⟨rfl, hb2⟩
  go_wp2
  go_ret
  exact ⟨rfl, hb2⟩

set_option maxRecDepth 100000 in
set_option maxHeartbeats 2000000 in
theorem refCmpR_any (x y : Rw) (w : World) (hx : RwOk w w.heap.size x) (hy : RwOk w w.heap.size y) :
    Calls Try.prog 51 #[cellR x, cellR y] w fun e w' => e = .returned (.int .i64 (ordR x.l y.l)) ∧ Below w.heap.size w w' := by
  have hxm := Nat.le_trans hx.c hx.m
  have hym := Nat.le_trans hy.c hy.m
  have hmx : maxLen ≤ 9223372036854775807 := by decide
  have HX := Lib.hid hx
  have HY := Lib.hid hy
  clear hx hy
  obtain ⟨A, c, l⟩ := x
  obtain ⟨A', c', r⟩ := y
  unfold cellR
  simp only at hxm hym ⊢
  go_enter Try.func51, Try.ntmps51
  go_wp2
  go_loopw [5] (fun i wr => ∃ j : Nat, j ≤ l.length ∧ j ≤ r.length ∧ i = .int .i64 j ∧ Hid (ordR (l.drop j) (r.drop j) = ordR l r) ∧ Hid (Below w.heap.size w wr)) (fun i _ => l.length - (intOf i).toNat)
  case atStart => exact ⟨0, Nat.zero_le _, Nat.zero_le _, rfl, rfl, Below.refl _ _⟩
  case round =>
    obtain ⟨j, hj, hj', rfl, HJ, HB⟩ := hrel
    by_cases h1 : j < l.length
    · have h1i : (j : Int) < (l.length : Int) := by omega
      by_cases h2 : j < r.length
      · have h2i : (j : Int) < (r.length : Int) := by omega
        obtain ⟨b, o, rfl, hb, hp⟩ := (HX.out.s.next HB.out (Nat.le_refl _)).at_ h1
        have hxe : l[j]? = some l[j] := List.getElem?_eq_getElem h1
        have hxz := HX.out.z _ (List.getElem_mem h1) |>.1
        obtain ⟨u, hu⟩ : ∃ u, l[j] = u := ⟨_, rfl⟩
        rw [hu] at hp hxe hxz
        obtain ⟨b', o', rfl, hb', hp'⟩ := (HY.out.s.next HB.out (Nat.le_refl _)).at_ h2
        have hye : r[j]? = some r[j] := List.getElem?_eq_getElem h2
        have hyz := HY.out.z _ (List.getElem_mem h2) |>.1
        obtain ⟨v, hv⟩ : ∃ v, r[j] = v := ⟨_, rfl⟩
        rw [hv] at hp' hye hyz
        have HP := Lib.hid hp
        have HP' := Lib.hid hp'
        have HO := Lib.hid (ord_at hxe hye)
        have HCC := Lib.hid (fun W => refCompare_any u.1 u.2.1 u.2.2 v.1 v.2.1 v.2.2 W hxz hyz)
        obtain ⟨O, hO⟩ : ∃ O, ordT u v = O := ⟨_, rfl⟩
        rw [hO] at HO
        have HOO : Hid (ordV u.1 u.2.1 u.2.2 v.1 v.2.1 v.2.2 = O) := hO
        clear hp hp' hxe hye hu hv hxz hyz hO
        have HSD1 : Hid (CsV wr.heap.size b (o + j * 3) b' (o' + j * 3) u v wr.drew) := ⟨HP.out.drewN 1, HP'.out.drewN 1, ⟨Nat.lt_of_lt_of_le hb HB.out.size, Nat.lt_of_lt_of_le hb' HB.out.size⟩, Nat.le_refl _⟩
        obtain ⟨wd1, hwd1⟩ : ∃ wd, wr.drew = wd := ⟨_, rfl⟩
        have HBD1 : Hid (Below w.heap.size w wd1) := by rw [← hwd1]; exact HB.out.drew
        rw [hwd1] at HSD1
        clear HP HP'
        go_wp2_with fail
        refine wp_region_held_drew (S := CsV wr.heap.size b (o + j * 3) b' (o' + j * 3) u v) (by kernel_rfl) (by rw [hwd1]; exact HSD1.out) (fun hHeld => ?_)
        rw [hwd1] at hHeld ⊢
        clear hwd1
        refine takeV 0 (some 19) ((.slice (some ⟨b, o, none⟩) l.length c)) rfl rfl (by kernel_rfl) (by kernel_rfl) (by kernel_rfl) (fun _ _ _ h => h) (by rfl) (by (intro _w _hSw; (try dsimp only at _hSw); go_simp)) (by assumption) ?_
        simp only [Act.put, List.setIfInBounds_toArray, List.set_cons_zero, List.set_cons_succ]
        refine takeV 1 (some 20) ((.int .i64 j)) rfl rfl (by kernel_rfl) (by kernel_rfl) (by kernel_rfl) (fun _ _ _ h => h) (by rfl) (by (intro _w _hSw; (try dsimp only at _hSw); go_simp)) (by assumption) ?_
        simp only [Act.put, List.setIfInBounds_toArray, List.set_cons_zero, List.set_cons_succ]
        refine takeV 2 (some 21) ((.pointer (some ⟨b, o + j * 3, none⟩))) rfl rfl (by kernel_rfl) (by kernel_rfl) (by kernel_rfl) (fun _ _ _ h => h) (by rfl) (by (intro _w _hSw; (try dsimp only at _hSw); go_simp)) (by assumption) ?_
        simp only [Act.put, List.setIfInBounds_toArray, List.set_cons_zero, List.set_cons_succ]
        refine takeV 3 (some 22) ((.agg #[.int .i64 u.1, .int .i64 u.2.1, .string u.2.2])) rfl rfl (by kernel_rfl) (by kernel_rfl) (by kernel_rfl) (fun _ _ _ h => h) (by rfl) (by (intro _w hSw; have k0 := hSw.1.c0; have k1 := hSw.1.c1; have k2 := hSw.1.c2; clear hSw; go_simp)) (by assumption) ?_
        simp only [Act.put, List.setIfInBounds_toArray, List.set_cons_zero, List.set_cons_succ]
        refine takeV 4 (some 23) ((.slice (some ⟨b', o', none⟩) r.length c')) rfl rfl (by kernel_rfl) (by kernel_rfl) (by kernel_rfl) (fun _ _ _ h => h) (by rfl) (by (intro _w _hSw; (try dsimp only at _hSw); go_simp)) (by assumption) ?_
        simp only [Act.put, List.setIfInBounds_toArray, List.set_cons_zero, List.set_cons_succ]
        refine takeV 5 (some 24) ((.int .i64 j)) rfl rfl (by kernel_rfl) (by kernel_rfl) (by kernel_rfl) (fun _ _ _ h => h) (by rfl) (by (intro _w _hSw; (try dsimp only at _hSw); go_simp)) (by assumption) ?_
        simp only [Act.put, List.setIfInBounds_toArray, List.set_cons_zero, List.set_cons_succ]
        refine takeV 6 (some 25) ((.pointer (some ⟨b', o' + j * 3, none⟩))) rfl rfl (by kernel_rfl) (by kernel_rfl) (by kernel_rfl) (fun _ _ _ h => h) (by rfl) (by (intro _w _hSw; (try dsimp only at _hSw); go_simp)) (by assumption) ?_
        simp only [Act.put, List.setIfInBounds_toArray, List.set_cons_zero, List.set_cons_succ]
        refine takeV 7 (some 26) ((.agg #[.int .i64 v.1, .int .i64 v.2.1, .string v.2.2])) rfl rfl (by kernel_rfl) (by kernel_rfl) (by kernel_rfl) (fun _ _ _ h => h) (by rfl) (by (intro _w hSw; have k0 := hSw.2.1.c0; have k1 := hSw.2.1.c1; have k2 := hSw.2.1.c2; clear hSw; go_simp)) (by assumption) ?_
        simp only [Act.put, List.setIfInBounds_toArray, List.set_cons_zero, List.set_cons_succ]
        refine callV 8 rfl (by kernel_rfl) (by rfl) (fun K hK => ?_)
        go_simp
        refine (HCC.out _).mono ?_
        rintro e w3 ⟨rfl, hb3⟩
        have HB2 := Lib.hid (HBD1.out.trans (hb3.mono HBD1.out.size))
        rw [HOO.out]
        refine hK.out _ _ (CsV.next hHeld hb3) (fun _ => ?_)
        clear hK K hHeld hb3
        try simp only [Act.put, List.setIfInBounds_toArray, List.set_cons_zero, List.set_cons_succ]
        refine takeV 9 (some 6) ((.int .i64 O)) rfl rfl (by kernel_rfl) (by kernel_rfl) (by kernel_rfl) (fun _ _ _ h => h) (by rfl) (by (intro _w _hSw; (try dsimp only at _hSw); go_simp)) (by assumption) ?_
        simp only [Act.put, List.setIfInBounds_toArray, List.set_cons_zero, List.set_cons_succ]
        refine wpAnyH_done (by kernel_rfl) ?_ _
        clear HSD1 HBD1
        by_cases h0 : O = 0
        · have h0d : (O != 0) = false := by rw [h0]; rfl
          rw [if_pos h0] at HO
          clear h0
          go_wp2
          go_roundw
          case rel => exact ⟨j + 1, by omega, by omega, by go_num, HO.out.symm.trans HJ.out, HB2.out⟩
          case measure => simp [intOf]; omega
        · have h0d : (O != 0) = true := by simpa using h0
          rw [if_neg h0] at HO
          clear h0
          go_wp2
          go_ret
          exact ⟨ret_i64 (by rw [← HJ.out, HO.out]), HB2.out⟩
      · have h2i : ¬ (j : Int) < (r.length : Int) := by omega
        have HO := Lib.hid (ord_out1 (l := l) (r := r) (j := j) (by omega) h1)
        have h3 : ¬ (l.length : Int) < (r.length : Int) := by omega
        have h4 : (r.length : Int) < (l.length : Int) := by omega
        go_wp2
        go_ret
        exact ⟨ret_i64 (by rw [← HJ.out, HO.out]), HB.out⟩
    · have h1i : ¬ (j : Int) < (l.length : Int) := by omega
      have HO := Lib.hid (ord_out2 (l := l) (r := r) (j := j) (by omega) hj' (by omega))
      by_cases h2 : (l.length : Int) < (r.length : Int)
      · go_wp2
        go_ret
        exact ⟨ret_i64 (by rw [← HJ.out, HO.out, if_pos (by omega)]), HB.out⟩
      · have h4 : ¬ (r.length : Int) < (l.length : Int) := by omega
        go_wp2
        go_ret
        exact ⟨ret_i64 (by rw [← HJ.out, HO.out, if_neg (by omega)]), HB.out⟩
end Go.Proofs.Ytofmfainhflmmaa
