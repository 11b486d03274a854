/-
  CONTRACTS: joined, cut.
-/
import Derived.Test.YtohpilamoglhcaaQPut
import Derived.Test.YtohpilamoglhcaaQApi
import Derived.Test.YtohpilamoglhcaaQFind
namespace Go.Proofs.Ytohpilamoglhcaa
open Go.RowKit

theorem atT_at [LT Gb] : ∀ {t : Tr} {i : Int} {w : World}, TreeAt w t → TreeAt w (atT t i)
  | .nil, _, _, _ => trivial
  | .nd b p l r, i, w, h => by
    unfold atT
    split
    · exact atT_at h.2.1
    · split
      · exact atT_at h.2.2
      · exact h
theorem findT_at [LT Gb] : ∀ {t : Tr} {k : By} {w : World}, TreeAt w t → TreeAt w (findT t k)
  | .nil, _, _, _ => trivial
  | .nd b p l r, k, w, h => by
    unfold findT
    split
    · exact findT_at h.2.1
    · split
      · exact findT_at h.2.2
      · exact h
theorem cutL_not {l : List Pr} {k : By} (h : ∀ q ∈ l, q.1 ≠ k) : cutL l k = l := filter_all fun q hq => by simpa using h q hq
theorem cutL_last {l : List Pr} {p : Pr} (h : Rise (l ++ [p])) : cutL (l ++ [p]) p.1 ++ [p] = l ++ [p] := by
  rw [cut_here (r := []) h rfl, List.append_nil]
theorem cutL_first {l : List Pr} {p : Pr} (h : Rise (p :: l)) : p :: cutL (p :: l) p.1 = p :: l := by
  have := cut_here (l := []) (r := l) h (k := p.1) rfl
  rw [List.nil_append] at this
  rw [this]
  rfl
def CutP [LT Gb] (n : Nat) : Prop := ∀ (t : Tr) (w : World) (A : Option Addr) (c : Nat) (k : By), TreeAt w t → SlB w w.heap.size A k → Rise t.list → t.cnt ≤ n → t.cnt ≤ 900000 →
    Calls Try.prog 37 #[t.ptr, .slice A k.length c] w (EvEnd w (cutL t.list k))
theorem cnt_of {t : Tr} {l : List Pr} (h : t.list = l) : t.cnt = l.length := by rw [← h, t.len]
set_option maxRecDepth 100000 in
set_option maxHeartbeats 4000000 in
theorem joined_of [LT Gb] {n : Nat} (ih : CutP n) (L R : Tr) (w : World) (hL : TreeAt w L) (hR : TreeAt w R) (hl : Rise L.list) (hr : Rise R.list) (hn : L.cnt ≤ n) (hm : R.cnt ≤ n) (hs : L.cnt + R.cnt ≤ 900000) :
    Calls Try.prog 82 #[L.ptr, R.ptr] w (EvEnd w (L.list ++ R.list)) := by
  have HC1 := Lib.hid (count_any L w hL)
  have HC2 := Lib.hid (count_any R w hR)
  have hLl := L.len
  have hRl := R.len
  by_cases g1 : R.cnt < L.cnt
  · have g1' : decide ((R.cnt : Int) < (L.cnt : Int)) = true := decide_eq_true (by omega)
    have hlast : L.list.length - 1 < L.list.length := by omega
    obtain ⟨b, l', r', he⟩ := atT_some L (L.list.length - 1) hlast
    have hpre : L.list = L.list.take (L.list.length - 1) ++ [L.list[L.list.length - 1]] := by
      rw [← List.take_succ_eq_append_getElem hlast, List.take_of_length_le (by omega)]
    obtain ⟨p, hp⟩ : ∃ p, L.list[L.list.length - 1] = p := ⟨_, rfl⟩
    rw [hp] at he hpre
    have hnode := atT_at (i := ((L.list.length - 1 : Nat) : Int)) hL
    rw [he] at hnode
    obtain ⟨⟨pb, hnd, hpp⟩, _, _⟩ := hnode
    obtain ⟨A, c, A', c', hpb, hpk, _⟩ := id hpp
    replace hpk := hpk.1
    have HAT := Lib.hid (at_any L ((L.list.length - 1 : Nat) : Int) w hL (by omega) (by omega) (by omega))
    rw [he] at HAT
    have e1 : ((L.list.length - 1 : Nat) : Int) = (L.cnt : Int) - 1 := by omega
    rw [e1] at HAT
    have hcl : cutL L.list p.1 ++ [p] = L.list := by rw [hpre]; exact cutL_last (by rw [← hpre]; exact hl)
    have HIN := Lib.hid (fun X (hX : Below w.heap.size w X) => ih L X A c p.1 (hL.next hX) (fun h => by obtain ⟨a, e, hlt, hc⟩ := hpk.next hX (Nat.le_refl _) h; exact ⟨a, e, Nat.lt_of_lt_of_le hlt hX.size, hc⟩) hl hn (by omega))
    have HEV := Lib.hid (fun (u1 u2 : Option Addr) (n0 : Int) (t1 : Tr) X (hX : Below w.heap.size w X) (h1 : TreeAt X t1) (h2 : t1.list = cutL L.list p.1) =>
      (show Calls _ _ _ _ (EvEnd X (L.list ++ R.list)) by
        have e : L.list ++ R.list = t1.list ++ p :: R.list := by rw [h2]; exact (congrArg (· ++ R.list) hcl).symm.trans (by simp)
        rw [e]
        have h3 := cnt_of h2
        have h4 := cut_len' L.list p.1
        exact even_any pb u1 u2 n0 p t1 R X (hpp.next hX) h1 (hR.next hX) (by omega)))
    obtain ⟨uL, huL⟩ := L.ptr_pointer
    obtain ⟨uR, huR⟩ := R.ptr_pointer
    obtain ⟨ul, hul⟩ := l'.ptr_pointer
    obtain ⟨ur, hur⟩ := r'.ptr_pointer
    rw [hul, hur] at hnd
    have HND := Lib.hid hnd
    have HPK : Hid (∀ X, Below w.heap.size w X → X.cell? ⟨pb, 0, none⟩ = some (.slice A p.1.length c)) := fun X hX => by
      have := hX.cell (p := ⟨pb, 0, none⟩) (Array.getElem?_eq_some_iff.1 hpb).1
      rw [this]
      simp [World.cell?, hpb]
    rw [huL] at HC1 HAT HIN
    rw [huR] at HC2 HEV
    rw [huL, huR]
    have hs9 : L.cnt ≤ 900000 := by omega
    have HD : Hid (Below w.heap.size w w) := Below.refl _ _
    clear hL hR hl hr hn hm he hpre hp hnd hpp hpb hpk huL huR hul hur hcl hs e1 hlast hLl hRl ih
    go_enter Try.func82, Try.ntmps82
    go_wp2_with fail
    refine HC1.out.mono ?_
    rintro e w' ⟨rfl, rfl⟩
    go_wp2_with fail
    refine HC2.out.mono ?_
    rintro e w' ⟨rfl, rfl⟩
    go_wp2_with fail
    refine HC1.out.mono ?_
    rintro e w' ⟨rfl, rfl⟩
    go_wp2_with fail
    refine HAT.out.mono ?_
    rintro e w' ⟨rfl, rfl⟩
    simp only [Tr.ptr]
    go_wp2_with fail
    clear HC1 HC2 HAT g1' g1 hs9
    have HEV := Lib.hid (HEV.out ul ur ((Tr.nd b p l' r').cnt : Nat))
    have HS0 := Lib.hid (qb_dn (Below.refl w.heap.size w) 1)
    obtain ⟨we, hwe⟩ : ∃ X, w.drew = X := ⟨_, rfl⟩
    refine wp_region_held_drew (S := fun X => Below w.heap.size w X) (by kernel_rfl) HS0.out (fun hHeld => ?_)
    rw [hwe] at hHeld ⊢
    clear hwe HS0
    have HX0 := Lib.hid (below_more HD.out hHeld HD.out.size)
    refine takeV 0 (some 17) ((.pointer (some ⟨b, 0, none⟩))) rfl rfl (by kernel_rfl) (by kernel_rfl) (by kernel_rfl) (fun _ _ _ h => h) (by rfl) (by (intro _w _hSw; (try dsimp only at _hSw); go_simp)) (by assumption) ?_
    simp only [Act.put, List.setIfInBounds_toArray, List.set_cons_zero, List.set_cons_succ]
    refine takeV 1 (some 18) ((.pointer (some ⟨b, 0, none⟩))) rfl rfl (by kernel_rfl) (by kernel_rfl) (by kernel_rfl) (fun _ _ _ h => h) (by rfl) (by (intro _w _hSw; (try dsimp only at _hSw); go_simp)) (by assumption) ?_
    simp only [Act.put, List.setIfInBounds_toArray, List.set_cons_zero, List.set_cons_succ]
    refine takeV 2 (some 19) ((.agg #[.pointer (some ⟨pb, 0, none⟩), .pointer ul, .pointer ur, .int .i64 ((Tr.nd b p l' r').cnt : Nat)])) rfl rfl (by kernel_rfl) (by kernel_rfl) (by kernel_rfl) (fun _ _ _ h => h) (by rfl) (by (intro _w hSw; have hx := HND.out.next hSw (Nat.le_refl _); have k0 := hx.c0; have k1 := hx.c1; have k2 := hx.c2; have k3 := hx.c3; clear hSw; go_simp)) (by assumption) ?_
    simp only [Act.put, List.setIfInBounds_toArray, List.set_cons_zero, List.set_cons_succ]
    refine takeV 3 (some 20) ((.pointer uL)) rfl rfl (by kernel_rfl) (by kernel_rfl) (by kernel_rfl) (fun _ _ _ h => h) (by rfl) (by (intro _w _hSw; (try dsimp only at _hSw); go_simp)) (by assumption) ?_
    simp only [Act.put, List.setIfInBounds_toArray, List.set_cons_zero, List.set_cons_succ]
    refine takeV 4 (some 21) ((.pointer (some ⟨b, 0, none⟩))) rfl rfl (by kernel_rfl) (by kernel_rfl) (by kernel_rfl) (fun _ _ _ h => h) (by rfl) (by (intro _w _hSw; (try dsimp only at _hSw); go_simp)) (by assumption) ?_
    simp only [Act.put, List.setIfInBounds_toArray, List.set_cons_zero, List.set_cons_succ]
    refine takeV 5 (some 22) ((.pointer (some ⟨b, 0, none⟩))) rfl rfl (by kernel_rfl) (by kernel_rfl) (by kernel_rfl) (fun _ _ _ h => h) (by rfl) (by (intro _w _hSw; (try dsimp only at _hSw); go_simp)) (by assumption) ?_
    simp only [Act.put, List.setIfInBounds_toArray, List.set_cons_zero, List.set_cons_succ]
    refine takeV 6 (some 23) ((.pointer (some ⟨b, 0, none⟩))) rfl rfl (by kernel_rfl) (by kernel_rfl) (by kernel_rfl) (fun _ _ _ h => h) (by rfl) (by (intro _w _hSw; (try dsimp only at _hSw); go_simp)) (by assumption) ?_
    simp only [Act.put, List.setIfInBounds_toArray, List.set_cons_zero, List.set_cons_succ]
    refine takeV 7 (some 24) ((.pointer (some ⟨pb, 0, none⟩))) rfl rfl (by kernel_rfl) (by kernel_rfl) (by kernel_rfl) (fun _ _ _ h => h) (by rfl) (by (intro _w hSw; have hx := HND.out.next hSw (Nat.le_refl _); have k0 := hx.c0; have k1 := hx.c1; have k2 := hx.c2; have k3 := hx.c3; clear hSw; go_simp)) (by assumption) ?_
    simp only [Act.put, List.setIfInBounds_toArray, List.set_cons_zero, List.set_cons_succ]
    refine takeV 8 (some 25) ((.pointer (some ⟨pb, 0, none⟩))) rfl rfl (by kernel_rfl) (by kernel_rfl) (by kernel_rfl) (fun _ _ _ h => h) (by rfl) (by (intro _w _hSw; (try dsimp only at _hSw); go_simp)) (by assumption) ?_
    simp only [Act.put, List.setIfInBounds_toArray, List.set_cons_zero, List.set_cons_succ]
    refine takeV 9 (some 26) ((.pointer (some ⟨pb, 0, none⟩))) rfl rfl (by kernel_rfl) (by kernel_rfl) (by kernel_rfl) (fun _ _ _ h => h) (by rfl) (by (intro _w _hSw; (try dsimp only at _hSw); go_simp)) (by assumption) ?_
    simp only [Act.put, List.setIfInBounds_toArray, List.set_cons_zero, List.set_cons_succ]
    refine takeV 10 (some 27) ((.slice A p.1.length c)) rfl rfl (by kernel_rfl) (by kernel_rfl) (by kernel_rfl) (fun _ _ _ h => h) (by rfl) (by (intro _w hSw; have k0 : _w.cell? ⟨pb, 0, none⟩ = some (.slice A p.1.length c) := HPK.out _w hSw; clear hSw; go_simp)) (by assumption) ?_
    simp only [Act.put, List.setIfInBounds_toArray, List.set_cons_zero, List.set_cons_succ]
    refine takeV 12 (some 29) ((.pointer uR)) rfl rfl (by kernel_rfl) (by kernel_rfl) (by kernel_rfl) (fun _ _ _ h => h) (by rfl) (by (intro _w _hSw; (try dsimp only at _hSw); go_simp)) (by assumption) ?_
    simp only [Act.put, List.setIfInBounds_toArray, List.set_cons_zero, List.set_cons_succ]
    refine callV 11 rfl (by kernel_rfl) (by rfl) (fun K hK => ?_)
    go_simp
    refine (HIN.out _ HX0.out).mono ?_
    rintro e w1 ⟨t1, rfl, ht1, hl1, hb⟩
    have HY1 := Lib.hid hb
    have HX1 := Lib.hid (below_more HX0.out hb HX0.out.size)
    obtain ⟨u1, hu1⟩ := t1.ptr_pointer
    have HE := Lib.hid (HEV.out t1 _ HX1.out ht1 hl1)
    rw [hu1] at HE ⊢
    clear hu1 ht1 hl1
    refine hK.out _ _ (below_more hHeld hb hHeld.size) (fun hHeld2 => ?_)
    clear hK K hHeld hb
    have hHeld := hHeld2
    clear hHeld2
    try simp only [Act.put, List.setIfInBounds_toArray, List.set_cons_zero, List.set_cons_succ]
    refine callV 13 rfl (by kernel_rfl) (by rfl) (fun K hK => ?_)
    go_simp
    refine (HE.out).mono ?_
    rintro e w2 ⟨t2, rfl, ht2, hl2, hb⟩
    have HY2 := Lib.hid hb
    have HX2 := Lib.hid (below_more HX1.out hb HX1.out.size)
    obtain ⟨u2, hu2⟩ := t2.ptr_pointer
    have HFF : Hid (EvEnd w (L.list ++ R.list) (.returned (.pointer u2)) w2) := ⟨t2, by rw [hu2], ht2, hl2, HX2.out⟩
    rw [hu2]
    clear hu2 ht2 hl2 HE
    refine hK.out _ _ (below_more hHeld hb hHeld.size) (fun hHeld2 => ?_)
    clear hK K hHeld hb
    have hHeld := hHeld2
    clear hHeld2
    try simp only [Act.put, List.setIfInBounds_toArray, List.set_cons_zero, List.set_cons_succ]
    refine takeV 14 (some 4) ((.pointer u2)) rfl rfl (by kernel_rfl) (by kernel_rfl) (by kernel_rfl) (fun _ _ _ h => h) (by rfl) (by (intro _w _hSw; (try dsimp only at _hSw); go_simp)) (by assumption) ?_
    simp only [Act.put, List.setIfInBounds_toArray, List.set_cons_zero, List.set_cons_succ]
    refine wpAnyH_done (by kernel_rfl) ?_ _
    go_wp2
    go_ret
    exact HFF.out
  · have g1' : decide ((R.cnt : Int) < (L.cnt : Int)) = false := decide_eq_false (by omega)
    by_cases g2 : R.cnt = 0
    · have hRn : R = .nil := by
        cases R with
        | nil => rfl
        | nd b p l r => simp only [Tr.cnt] at g2; omega
      have hLn : L = .nil := by
        cases L with
        | nil => rfl
        | nd b p l r => simp only [Tr.cnt] at g1 g2; omega
      subst hRn hLn
      have hf : EvEnd w (Tr.nil.list ++ Tr.nil.list) (.returned (.pointer none)) w := ⟨.nil, rfl, trivial, rfl, Below.refl _ _⟩
      clear hL hR hl hr hn hm hs hLl hRl ih
      simp only [Tr.ptr] at HC1 HC2 ⊢
      go_enter Try.func82, Try.ntmps82
      go_wp2_with fail
      refine HC1.out.mono ?_
      rintro e w' ⟨rfl, rfl⟩
      go_wp2_with fail
      refine HC1.out.mono ?_
      rintro e w' ⟨rfl, rfl⟩
      go_wp2
      go_ret
      exact hf
    · obtain ⟨b, l', r', he⟩ := atT_some R 0 (by have := R.len; omega)
      obtain ⟨p, ps, hpre⟩ : ∃ p ps, R.list = p :: ps := by
        cases hx : R.list with
        | nil => rw [hx] at hRl; simp at hRl; omega
        | cons p ps => exact ⟨p, ps, rfl⟩
      simp only [hpre, List.getElem_cons_zero] at he
      have hnode := atT_at (i := ((0 : Nat) : Int)) hR
      rw [he] at hnode
      obtain ⟨⟨pb, hnd, hpp⟩, _, _⟩ := hnode
      obtain ⟨A, c, A', c', hpb, hpk, _⟩ := id hpp
      replace hpk := hpk.1
      have HAT := Lib.hid (at_any R ((0 : Nat) : Int) w hR (by omega) (by omega) (by omega))
      rw [he] at HAT
      have hcl : p :: cutL R.list p.1 = R.list := by rw [hpre]; exact cutL_first (by rw [← hpre]; exact hr)
      have HIN := Lib.hid (fun X (hX : Below w.heap.size w X) => ih R X A c p.1 (hR.next hX) (fun h => by obtain ⟨a, e, hlt, hc⟩ := hpk.next hX (Nat.le_refl _) h; exact ⟨a, e, Nat.lt_of_lt_of_le hlt hX.size, hc⟩) hr hm (by omega))
      have HEV := Lib.hid (fun (u1 u2 : Option Addr) (n0 : Int) (t1 : Tr) X (hX : Below w.heap.size w X) (h1 : TreeAt X t1) (h2 : t1.list = cutL R.list p.1) =>
        (show Calls _ _ _ _ (EvEnd X (L.list ++ R.list)) by
          have e : L.list ++ R.list = L.list ++ p :: t1.list := by rw [h2, hcl]
          rw [e]
          have h3 := cnt_of h2
          have h4 := cut_len' R.list p.1
          exact even_any pb u1 u2 n0 p L t1 X (hpp.next hX) (hL.next hX) h1 (by omega)))
      have hRp : ∃ a, R.ptr = .pointer (some a) := by
        cases R with
        | nil => exact absurd rfl g2
        | nd b p l r => exact ⟨_, rfl⟩
      obtain ⟨uL, huL⟩ := L.ptr_pointer
      obtain ⟨aR, huR⟩ := hRp
      obtain ⟨ul, hul⟩ := l'.ptr_pointer
      obtain ⟨ur, hur⟩ := r'.ptr_pointer
      rw [hul, hur] at hnd
      have HND := Lib.hid hnd
      have HPK : Hid (∀ X, Below w.heap.size w X → X.cell? ⟨pb, 0, none⟩ = some (.slice A p.1.length c)) := fun X hX => by
        have := hX.cell (p := ⟨pb, 0, none⟩) (Array.getElem?_eq_some_iff.1 hpb).1
        rw [this]
        simp [World.cell?, hpb]
      rw [huL] at HC1 HEV
      rw [huR] at HC2 HAT HIN
      rw [huL, huR]
      have HD : Hid (Below w.heap.size w w) := Below.refl _ _
      clear hL hR hl hr hn hm he hpre hnd hpp hpb hpk huL huR hul hur hcl hs hLl hRl ih
      go_enter Try.func82, Try.ntmps82
      go_wp2_with fail
      refine HC1.out.mono ?_
      rintro e w' ⟨rfl, rfl⟩
      go_wp2_with fail
      refine HC2.out.mono ?_
      rintro e w' ⟨rfl, rfl⟩
      go_wp2_with fail
      refine HAT.out.mono ?_
      rintro e w' ⟨rfl, rfl⟩
      simp only [Tr.ptr]
      go_wp2_with fail
      clear HC1 HC2 HAT g1' g1 g2
      have HEV := Lib.hid (HEV.out ul ur ((Tr.nd b p l' r').cnt : Nat))
      have HS0 := Lib.hid (qb_dn (Below.refl w.heap.size w) 1)
      obtain ⟨we, hwe⟩ : ∃ X, w.drew = X := ⟨_, rfl⟩
      refine wp_region_held_drew (S := fun X => Below w.heap.size w X) (by kernel_rfl) HS0.out (fun hHeld => ?_)
      rw [hwe] at hHeld ⊢
      clear hwe HS0
      have HX0 := Lib.hid (below_more HD.out hHeld HD.out.size)
      refine takeV 0 (some 35) ((.pointer (some ⟨b, 0, none⟩))) rfl rfl (by kernel_rfl) (by kernel_rfl) (by kernel_rfl) (fun _ _ _ h => h) (by rfl) (by (intro _w _hSw; (try dsimp only at _hSw); go_simp)) (by assumption) ?_
      simp only [Act.put, List.setIfInBounds_toArray, List.set_cons_zero, List.set_cons_succ]
      refine takeV 1 (some 36) ((.pointer (some ⟨b, 0, none⟩))) rfl rfl (by kernel_rfl) (by kernel_rfl) (by kernel_rfl) (fun _ _ _ h => h) (by rfl) (by (intro _w _hSw; (try dsimp only at _hSw); go_simp)) (by assumption) ?_
      simp only [Act.put, List.setIfInBounds_toArray, List.set_cons_zero, List.set_cons_succ]
      refine takeV 2 (some 37) ((.agg #[.pointer (some ⟨pb, 0, none⟩), .pointer ul, .pointer ur, .int .i64 ((Tr.nd b p l' r').cnt : Nat)])) rfl rfl (by kernel_rfl) (by kernel_rfl) (by kernel_rfl) (fun _ _ _ h => h) (by rfl) (by (intro _w hSw; have hx := HND.out.next hSw (Nat.le_refl _); have k0 := hx.c0; have k1 := hx.c1; have k2 := hx.c2; have k3 := hx.c3; clear hSw; go_simp)) (by assumption) ?_
      simp only [Act.put, List.setIfInBounds_toArray, List.set_cons_zero, List.set_cons_succ]
      refine takeV 3 (some 38) ((.pointer uL)) rfl rfl (by kernel_rfl) (by kernel_rfl) (by kernel_rfl) (fun _ _ _ h => h) (by rfl) (by (intro _w _hSw; (try dsimp only at _hSw); go_simp)) (by assumption) ?_
      simp only [Act.put, List.setIfInBounds_toArray, List.set_cons_zero, List.set_cons_succ]
      refine takeV 4 (some 39) ((.pointer (some aR))) rfl rfl (by kernel_rfl) (by kernel_rfl) (by kernel_rfl) (fun _ _ _ h => h) (by rfl) (by (intro _w _hSw; (try dsimp only at _hSw); go_simp)) (by assumption) ?_
      simp only [Act.put, List.setIfInBounds_toArray, List.set_cons_zero, List.set_cons_succ]
      refine takeV 5 (some 40) ((.pointer (some ⟨b, 0, none⟩))) rfl rfl (by kernel_rfl) (by kernel_rfl) (by kernel_rfl) (fun _ _ _ h => h) (by rfl) (by (intro _w _hSw; (try dsimp only at _hSw); go_simp)) (by assumption) ?_
      simp only [Act.put, List.setIfInBounds_toArray, List.set_cons_zero, List.set_cons_succ]
      refine takeV 6 (some 41) ((.pointer (some ⟨b, 0, none⟩))) rfl rfl (by kernel_rfl) (by kernel_rfl) (by kernel_rfl) (fun _ _ _ h => h) (by rfl) (by (intro _w _hSw; (try dsimp only at _hSw); go_simp)) (by assumption) ?_
      simp only [Act.put, List.setIfInBounds_toArray, List.set_cons_zero, List.set_cons_succ]
      refine takeV 7 (some 42) ((.pointer (some ⟨b, 0, none⟩))) rfl rfl (by kernel_rfl) (by kernel_rfl) (by kernel_rfl) (fun _ _ _ h => h) (by rfl) (by (intro _w _hSw; (try dsimp only at _hSw); go_simp)) (by assumption) ?_
      simp only [Act.put, List.setIfInBounds_toArray, List.set_cons_zero, List.set_cons_succ]
      refine takeV 8 (some 43) ((.pointer (some ⟨pb, 0, none⟩))) rfl rfl (by kernel_rfl) (by kernel_rfl) (by kernel_rfl) (fun _ _ _ h => h) (by rfl) (by (intro _w hSw; have hx := HND.out.next hSw (Nat.le_refl _); have k0 := hx.c0; have k1 := hx.c1; have k2 := hx.c2; have k3 := hx.c3; clear hSw; go_simp)) (by assumption) ?_
      simp only [Act.put, List.setIfInBounds_toArray, List.set_cons_zero, List.set_cons_succ]
      refine takeV 9 (some 44) ((.pointer (some ⟨pb, 0, none⟩))) rfl rfl (by kernel_rfl) (by kernel_rfl) (by kernel_rfl) (fun _ _ _ h => h) (by rfl) (by (intro _w _hSw; (try dsimp only at _hSw); go_simp)) (by assumption) ?_
      simp only [Act.put, List.setIfInBounds_toArray, List.set_cons_zero, List.set_cons_succ]
      refine takeV 10 (some 45) ((.pointer (some ⟨pb, 0, none⟩))) rfl rfl (by kernel_rfl) (by kernel_rfl) (by kernel_rfl) (fun _ _ _ h => h) (by rfl) (by (intro _w _hSw; (try dsimp only at _hSw); go_simp)) (by assumption) ?_
      simp only [Act.put, List.setIfInBounds_toArray, List.set_cons_zero, List.set_cons_succ]
      refine takeV 11 (some 46) ((.slice A p.1.length c)) rfl rfl (by kernel_rfl) (by kernel_rfl) (by kernel_rfl) (fun _ _ _ h => h) (by rfl) (by (intro _w hSw; have k0 : _w.cell? ⟨pb, 0, none⟩ = some (.slice A p.1.length c) := HPK.out _w hSw; clear hSw; go_simp)) (by assumption) ?_
      simp only [Act.put, List.setIfInBounds_toArray, List.set_cons_zero, List.set_cons_succ]
      refine callV 12 rfl (by kernel_rfl) (by rfl) (fun K hK => ?_)
      go_simp
      refine (HIN.out _ HX0.out).mono ?_
      rintro e w1 ⟨t1, rfl, ht1, hl1, hb⟩
      have HY1 := Lib.hid hb
      have HX1 := Lib.hid (below_more HX0.out hb HX0.out.size)
      obtain ⟨u1, hu1⟩ := t1.ptr_pointer
      have HE := Lib.hid (HEV.out t1 _ HX1.out ht1 hl1)
      rw [hu1] at HE ⊢
      clear hu1 ht1 hl1
      refine hK.out _ _ (below_more hHeld hb hHeld.size) (fun hHeld2 => ?_)
      clear hK K hHeld hb
      have hHeld := hHeld2
      clear hHeld2
      try simp only [Act.put, List.setIfInBounds_toArray, List.set_cons_zero, List.set_cons_succ]
      refine callV 13 rfl (by kernel_rfl) (by rfl) (fun K hK => ?_)
      go_simp
      refine (HE.out).mono ?_
      rintro e w2 ⟨t2, rfl, ht2, hl2, hb⟩
      have HY2 := Lib.hid hb
      have HX2 := Lib.hid (below_more HX1.out hb HX1.out.size)
      obtain ⟨u2, hu2⟩ := t2.ptr_pointer
      have HFF : Hid (EvEnd w (L.list ++ R.list) (.returned (.pointer u2)) w2) := ⟨t2, by rw [hu2], ht2, hl2, HX2.out⟩
      rw [hu2]
      clear hu2 ht2 hl2 HE
      refine hK.out _ _ (below_more hHeld hb hHeld.size) (fun hHeld2 => ?_)
      clear hK K hHeld hb
      have hHeld := hHeld2
      clear hHeld2
      try simp only [Act.put, List.setIfInBounds_toArray, List.set_cons_zero, List.set_cons_succ]
      refine takeV 14 (some 4) ((.pointer u2)) rfl rfl (by kernel_rfl) (by kernel_rfl) (by kernel_rfl) (fun _ _ _ h => h) (by rfl) (by (intro _w _hSw; (try dsimp only at _hSw); go_simp)) (by assumption) ?_
      simp only [Act.put, List.setIfInBounds_toArray, List.set_cons_zero, List.set_cons_succ]
      refine wpAnyH_done (by kernel_rfl) ?_ _
      go_wp2
      go_ret
      exact HFF.out
set_option maxRecDepth 100000 in
set_option maxHeartbeats 4000000 in
theorem cut_step [LT Gb] {n : Nat} (ih : CutP n) : CutP (n + 1) := by
  intro t w A c k ht hk hR hn hc
  cases t with
  | nil =>
    have hf : EvEnd w (cutL Tr.nil.list k) (.returned (.pointer none)) w := ⟨.nil, rfl, trivial, rfl, Below.refl _ _⟩
    clear hk ht hR hn hc ih
    simp only [Tr.ptr]
    go_enter Try.func37, Try.ntmps37
    go_wp2
    go_ret
    exact hf
  | nd b q l r =>
    obtain ⟨⟨qb, hnd, hq⟩, htl, htr⟩ := ht
    have hnd0 := rise_nd.1 hR
    simp only [Tr.cnt] at hc hn
    have HR := Lib.hid hR
    have HIL := Lib.hid (fun X (hX : Below w.heap.size w X) => ih l X A c k (htl.next hX) (slB_up hk hX) hnd0.1 (by omega) (by omega))
    have HIR := Lib.hid (fun X (hX : Below w.heap.size w X) => ih r X A c k (htr.next hX) (slB_up hk hX) hnd0.2.1 (by omega) (by omega))
    have HJ := Lib.hid (fun (he : k = q.1) X (hX : Below w.heap.size w X) => (show Calls _ _ _ _ (EvEnd X (cutL (l.list ++ q :: r.list) k)) by rw [cut_here hR he]; exact joined_of ih l r X (htl.next hX) (htr.next hX) hnd0.1 hnd0.2.1 (by omega) (by omega) (by omega)))
    have HEL := Lib.hid (fun (hlt : ordL k q.1 = -1) (u1 u2 : Option Addr) (n0 : Int) (t1 : Tr) X (hX : Below w.heap.size w X) (h1 : TreeAt X t1) (h2 : t1.list = cutL l.list k) =>
      (show Calls _ _ _ _ (EvEnd X (cutL (l.list ++ q :: r.list) k)) by rw [cut_left hR hlt, ← h2]; exact even_any qb u1 u2 n0 q t1 r X (hq.next hX) h1 (htr.next hX) (by have h3 := cnt_of h2; have h4 := cut_len' l.list k; rw [l.len] at h4; omega)))
    have HER := Lib.hid (fun (hlt : ordL q.1 k = -1) (u1 u2 : Option Addr) (n0 : Int) (t1 : Tr) X (hX : Below w.heap.size w X) (h1 : TreeAt X t1) (h2 : t1.list = cutL r.list k) =>
      (show Calls _ _ _ _ (EvEnd X (cutL (l.list ++ q :: r.list) k)) by rw [cut_right hR hlt, ← h2]; exact even_any qb u1 u2 n0 q l t1 X (hq.next hX) (htl.next hX) h1 (by have h3 := cnt_of h2; have h4 := cut_len' r.list k; rw [r.len] at h4; omega)))
    obtain ⟨A2, c2, A2', c2', hqb, hqk, _⟩ := id hq
    replace hqk := hqk.1
    obtain ⟨ul, hul⟩ := l.ptr_pointer
    obtain ⟨ur, hur⟩ := r.ptr_pointer
    rw [hul] at HIL HER
    rw [hur] at HIR HEL
    rw [hul, hur] at hnd HJ
    have HND := Lib.hid hnd
    have HCM := Lib.hid (cmpB_any A A2 c c2 k q.1 w hk hqk)
    have q0 : w.cell? ⟨qb, 0, none⟩ = some (.slice A2 q.1.length c2) := by simp [World.cell?, hqb]
    have c0 := hnd.c0
    have HD : Hid (Below w.heap.size w w) := Below.refl _ _
    clear ih htl htr hq hnd hnd0 hqb hqk hk hul hur hc hn hR
    show Calls _ _ #[.pointer (some ⟨b, 0, none⟩), _] w (EvEnd w (cutL (l.list ++ q :: r.list) k))
    obtain ⟨o, ho⟩ : ∃ o, ordL k q.1 = o := ⟨_, rfl⟩
    have HO9 := Lib.hid ho
    rw [ho] at HCM
    clear ho
    go_enter Try.func37, Try.ntmps37
    go_wp2_with fail
    refine HCM.out.mono ?_
    rintro e w' ⟨rfl, rfl⟩
    clear q0 c0 HCM
    have ho3 : o = -1 ∨ o = 0 ∨ o = 1 := by rw [← HO9.out]; exact ordL_range _ _
    by_cases g1 : o < 0
    · have HLT : Hid (ordL k q.1 = -1) := by show ordL _ _ = _; rw [HO9.out]; omega
      have g1' : decide (o < 0) = true := decide_eq_true g1
      go_wp2_with fail
      have HEV := Lib.hid (HEL.out HLT.out ul ur ((Tr.nd b q l r).cnt : Nat))
      clear HEL HER HJ HIR g1 g1' ho3
      have HS0 := Lib.hid (qb_dn (Below.refl w.heap.size w) 1)
      obtain ⟨we, hwe⟩ : ∃ X, w.drew = X := ⟨_, rfl⟩
      refine wp_region_held_drew (S := fun X => Below w.heap.size w X) (by kernel_rfl) HS0.out (fun hHeld => ?_)
      rw [hwe] at hHeld ⊢
      clear hwe HS0
      have HX0 := Lib.hid (below_more HD.out hHeld HD.out.size)
      refine takeV 0 (some 20) ((.pointer (some ⟨b, 0, none⟩))) rfl rfl (by kernel_rfl) (by kernel_rfl) (by kernel_rfl) (fun _ _ _ h => h) (by rfl) (by (intro _w _hSw; (try dsimp only at _hSw); go_simp)) (by assumption) ?_
      simp only [Act.put, List.setIfInBounds_toArray, List.set_cons_zero, List.set_cons_succ]
      refine takeV 1 (some 21) ((.pointer (some ⟨b, 0, none⟩))) rfl rfl (by kernel_rfl) (by kernel_rfl) (by kernel_rfl) (fun _ _ _ h => h) (by rfl) (by (intro _w _hSw; (try dsimp only at _hSw); go_simp)) (by assumption) ?_
      simp only [Act.put, List.setIfInBounds_toArray, List.set_cons_zero, List.set_cons_succ]
      refine takeV 2 (some 22) ((.agg #[.pointer (some ⟨qb, 0, none⟩), .pointer ul, .pointer ur, .int .i64 ((Tr.nd b q l r).cnt : Nat)])) rfl rfl (by kernel_rfl) (by kernel_rfl) (by kernel_rfl) (fun _ _ _ h => h) (by rfl) (by (intro _w hSw; have hx := HND.out.next hSw (Nat.le_refl _); have k0 := hx.c0; have k1 := hx.c1; have k2 := hx.c2; have k3 := hx.c3; clear hSw; go_simp)) (by assumption) ?_
      simp only [Act.put, List.setIfInBounds_toArray, List.set_cons_zero, List.set_cons_succ]
      refine takeV 3 (some 23) ((.pointer (some ⟨b, 0, none⟩))) rfl rfl (by kernel_rfl) (by kernel_rfl) (by kernel_rfl) (fun _ _ _ h => h) (by rfl) (by (intro _w _hSw; (try dsimp only at _hSw); go_simp)) (by assumption) ?_
      simp only [Act.put, List.setIfInBounds_toArray, List.set_cons_zero, List.set_cons_succ]
      refine takeV 4 (some 24) ((.pointer (some ⟨b, 0, none⟩))) rfl rfl (by kernel_rfl) (by kernel_rfl) (by kernel_rfl) (fun _ _ _ h => h) (by rfl) (by (intro _w _hSw; (try dsimp only at _hSw); go_simp)) (by assumption) ?_
      simp only [Act.put, List.setIfInBounds_toArray, List.set_cons_zero, List.set_cons_succ]
      refine takeV 5 (some 25) ((.pointer (some ⟨b, 1, none⟩))) rfl rfl (by kernel_rfl) (by kernel_rfl) (by kernel_rfl) (fun _ _ _ h => h) (by rfl) (by (intro _w _hSw; (try dsimp only at _hSw); go_simp)) (by assumption) ?_
      simp only [Act.put, List.setIfInBounds_toArray, List.set_cons_zero, List.set_cons_succ]
      refine takeV 6 (some 26) ((.pointer ul)) rfl rfl (by kernel_rfl) (by kernel_rfl) (by kernel_rfl) (fun _ _ _ h => h) (by rfl) (by (intro _w hSw; have hx := HND.out.next hSw (Nat.le_refl _); have k0 := hx.c0; have k1 := hx.c1; have k2 := hx.c2; have k3 := hx.c3; clear hSw; go_simp)) (by assumption) ?_
      simp only [Act.put, List.setIfInBounds_toArray, List.set_cons_zero, List.set_cons_succ]
      refine takeV 7 (some 27) ((.slice A k.length c)) rfl rfl (by kernel_rfl) (by kernel_rfl) (by kernel_rfl) (fun _ _ _ h => h) (by rfl) (by (intro _w _hSw; (try dsimp only at _hSw); go_simp)) (by assumption) ?_
      simp only [Act.put, List.setIfInBounds_toArray, List.set_cons_zero, List.set_cons_succ]
      refine takeV 9 (some 29) ((.pointer (some ⟨b, 0, none⟩))) rfl rfl (by kernel_rfl) (by kernel_rfl) (by kernel_rfl) (fun _ _ _ h => h) (by rfl) (by (intro _w _hSw; (try dsimp only at _hSw); go_simp)) (by assumption) ?_
      simp only [Act.put, List.setIfInBounds_toArray, List.set_cons_zero, List.set_cons_succ]
      refine takeV 10 (some 30) ((.pointer (some ⟨b, 0, none⟩))) rfl rfl (by kernel_rfl) (by kernel_rfl) (by kernel_rfl) (fun _ _ _ h => h) (by rfl) (by (intro _w _hSw; (try dsimp only at _hSw); go_simp)) (by assumption) ?_
      simp only [Act.put, List.setIfInBounds_toArray, List.set_cons_zero, List.set_cons_succ]
      refine takeV 11 (some 31) ((.pointer (some ⟨b, 2, none⟩))) rfl rfl (by kernel_rfl) (by kernel_rfl) (by kernel_rfl) (fun _ _ _ h => h) (by rfl) (by (intro _w _hSw; (try dsimp only at _hSw); go_simp)) (by assumption) ?_
      simp only [Act.put, List.setIfInBounds_toArray, List.set_cons_zero, List.set_cons_succ]
      refine takeV 12 (some 32) ((.pointer ur)) rfl rfl (by kernel_rfl) (by kernel_rfl) (by kernel_rfl) (fun _ _ _ h => h) (by rfl) (by (intro _w hSw; have hx := HND.out.next hSw (Nat.le_refl _); have k0 := hx.c0; have k1 := hx.c1; have k2 := hx.c2; have k3 := hx.c3; clear hSw; go_simp)) (by assumption) ?_
      simp only [Act.put, List.setIfInBounds_toArray, List.set_cons_zero, List.set_cons_succ]
      refine callV 8 rfl (by kernel_rfl) (by rfl) (fun K hK => ?_)
      go_simp
      refine (HIL.out _ HX0.out).mono ?_
      rintro e w1 ⟨t1, rfl, ht1, hl1, hb⟩
      have HY1 := Lib.hid hb
      have HX1 := Lib.hid (below_more HX0.out hb HX0.out.size)
      obtain ⟨u1, hu1⟩ := t1.ptr_pointer
      have HE := Lib.hid (HEV.out t1 _ HX1.out ht1 hl1)
      rw [hu1] at HE ⊢
      clear hu1 ht1 hl1
      refine hK.out _ _ (below_more hHeld hb hHeld.size) (fun hHeld2 => ?_)
      clear hK K hHeld hb
      have hHeld := hHeld2
      clear hHeld2
      try simp only [Act.put, List.setIfInBounds_toArray, List.set_cons_zero, List.set_cons_succ]
      refine callV 13 rfl (by kernel_rfl) (by rfl) (fun K hK => ?_)
      go_simp
      refine (HE.out).mono ?_
      rintro e w2 ⟨t2, rfl, ht2, hl2, hb⟩
      have HY2 := Lib.hid hb
      have HX2 := Lib.hid (below_more HX1.out hb HX1.out.size)
      obtain ⟨u2, hu2⟩ := t2.ptr_pointer
      have HFF : Hid (EvEnd w (cutL (l.list ++ q :: r.list) k) (.returned (.pointer u2)) w2) := ⟨t2, by rw [hu2], ht2, hl2, HX2.out⟩
      rw [hu2]
      clear hu2 ht2 hl2 HE
      refine hK.out _ _ (below_more hHeld hb hHeld.size) (fun hHeld2 => ?_)
      clear hK K hHeld hb
      have hHeld := hHeld2
      clear hHeld2
      try simp only [Act.put, List.setIfInBounds_toArray, List.set_cons_zero, List.set_cons_succ]
      refine takeV 14 (some 4) ((.pointer u2)) rfl rfl (by kernel_rfl) (by kernel_rfl) (by kernel_rfl) (fun _ _ _ h => h) (by rfl) (by (intro _w _hSw; (try dsimp only at _hSw); go_simp)) (by assumption) ?_
      simp only [Act.put, List.setIfInBounds_toArray, List.set_cons_zero, List.set_cons_succ]
      refine wpAnyH_done (by kernel_rfl) ?_ _
      go_wp2
      go_ret
      exact HFF.out
    · have g1' : decide (o < 0) = false := decide_eq_false g1
      by_cases g2 : 0 < o
      · have HLT : Hid (ordL q.1 k = -1) := by show ordL _ _ = _; exact qo_one (by rw [HO9.out]; omega)
        have g2' : decide (0 < o) = true := decide_eq_true g2
        go_wp2_with fail
        have HEV := Lib.hid (HER.out HLT.out ul ur ((Tr.nd b q l r).cnt : Nat))
        clear HEL HER HJ HIL g1 g1' g2 g2' ho3
        have HS0 := Lib.hid (qb_dn (Below.refl w.heap.size w) 1)
        obtain ⟨we, hwe⟩ : ∃ X, w.drew = X := ⟨_, rfl⟩
        refine wp_region_held_drew (S := fun X => Below w.heap.size w X) (by kernel_rfl) HS0.out (fun hHeld => ?_)
        rw [hwe] at hHeld ⊢
        clear hwe HS0
        have HX0 := Lib.hid (below_more HD.out hHeld HD.out.size)
        refine takeV 0 (some 37) ((.pointer (some ⟨b, 0, none⟩))) rfl rfl (by kernel_rfl) (by kernel_rfl) (by kernel_rfl) (fun _ _ _ h => h) (by rfl) (by (intro _w _hSw; (try dsimp only at _hSw); go_simp)) (by assumption) ?_
        simp only [Act.put, List.setIfInBounds_toArray, List.set_cons_zero, List.set_cons_succ]
        refine takeV 1 (some 38) ((.pointer (some ⟨b, 0, none⟩))) rfl rfl (by kernel_rfl) (by kernel_rfl) (by kernel_rfl) (fun _ _ _ h => h) (by rfl) (by (intro _w _hSw; (try dsimp only at _hSw); go_simp)) (by assumption) ?_
        simp only [Act.put, List.setIfInBounds_toArray, List.set_cons_zero, List.set_cons_succ]
        refine takeV 2 (some 39) ((.agg #[.pointer (some ⟨qb, 0, none⟩), .pointer ul, .pointer ur, .int .i64 ((Tr.nd b q l r).cnt : Nat)])) rfl rfl (by kernel_rfl) (by kernel_rfl) (by kernel_rfl) (fun _ _ _ h => h) (by rfl) (by (intro _w hSw; have hx := HND.out.next hSw (Nat.le_refl _); have k0 := hx.c0; have k1 := hx.c1; have k2 := hx.c2; have k3 := hx.c3; clear hSw; go_simp)) (by assumption) ?_
        simp only [Act.put, List.setIfInBounds_toArray, List.set_cons_zero, List.set_cons_succ]
        refine takeV 3 (some 40) ((.pointer (some ⟨b, 0, none⟩))) rfl rfl (by kernel_rfl) (by kernel_rfl) (by kernel_rfl) (fun _ _ _ h => h) (by rfl) (by (intro _w _hSw; (try dsimp only at _hSw); go_simp)) (by assumption) ?_
        simp only [Act.put, List.setIfInBounds_toArray, List.set_cons_zero, List.set_cons_succ]
        refine takeV 4 (some 41) ((.pointer (some ⟨b, 0, none⟩))) rfl rfl (by kernel_rfl) (by kernel_rfl) (by kernel_rfl) (fun _ _ _ h => h) (by rfl) (by (intro _w _hSw; (try dsimp only at _hSw); go_simp)) (by assumption) ?_
        simp only [Act.put, List.setIfInBounds_toArray, List.set_cons_zero, List.set_cons_succ]
        refine takeV 5 (some 42) ((.pointer (some ⟨b, 1, none⟩))) rfl rfl (by kernel_rfl) (by kernel_rfl) (by kernel_rfl) (fun _ _ _ h => h) (by rfl) (by (intro _w _hSw; (try dsimp only at _hSw); go_simp)) (by assumption) ?_
        simp only [Act.put, List.setIfInBounds_toArray, List.set_cons_zero, List.set_cons_succ]
        refine takeV 6 (some 43) ((.pointer ul)) rfl rfl (by kernel_rfl) (by kernel_rfl) (by kernel_rfl) (fun _ _ _ h => h) (by rfl) (by (intro _w hSw; have hx := HND.out.next hSw (Nat.le_refl _); have k0 := hx.c0; have k1 := hx.c1; have k2 := hx.c2; have k3 := hx.c3; clear hSw; go_simp)) (by assumption) ?_
        simp only [Act.put, List.setIfInBounds_toArray, List.set_cons_zero, List.set_cons_succ]
        refine takeV 7 (some 44) ((.pointer (some ⟨b, 0, none⟩))) rfl rfl (by kernel_rfl) (by kernel_rfl) (by kernel_rfl) (fun _ _ _ h => h) (by rfl) (by (intro _w _hSw; (try dsimp only at _hSw); go_simp)) (by assumption) ?_
        simp only [Act.put, List.setIfInBounds_toArray, List.set_cons_zero, List.set_cons_succ]
        refine takeV 8 (some 45) ((.pointer (some ⟨b, 0, none⟩))) rfl rfl (by kernel_rfl) (by kernel_rfl) (by kernel_rfl) (fun _ _ _ h => h) (by rfl) (by (intro _w _hSw; (try dsimp only at _hSw); go_simp)) (by assumption) ?_
        simp only [Act.put, List.setIfInBounds_toArray, List.set_cons_zero, List.set_cons_succ]
        refine takeV 9 (some 46) ((.pointer (some ⟨b, 2, none⟩))) rfl rfl (by kernel_rfl) (by kernel_rfl) (by kernel_rfl) (fun _ _ _ h => h) (by rfl) (by (intro _w _hSw; (try dsimp only at _hSw); go_simp)) (by assumption) ?_
        simp only [Act.put, List.setIfInBounds_toArray, List.set_cons_zero, List.set_cons_succ]
        refine takeV 10 (some 47) ((.pointer ur)) rfl rfl (by kernel_rfl) (by kernel_rfl) (by kernel_rfl) (fun _ _ _ h => h) (by rfl) (by (intro _w hSw; have hx := HND.out.next hSw (Nat.le_refl _); have k0 := hx.c0; have k1 := hx.c1; have k2 := hx.c2; have k3 := hx.c3; clear hSw; go_simp)) (by assumption) ?_
        simp only [Act.put, List.setIfInBounds_toArray, List.set_cons_zero, List.set_cons_succ]
        refine takeV 11 (some 48) ((.slice A k.length c)) rfl rfl (by kernel_rfl) (by kernel_rfl) (by kernel_rfl) (fun _ _ _ h => h) (by rfl) (by (intro _w _hSw; (try dsimp only at _hSw); go_simp)) (by assumption) ?_
        simp only [Act.put, List.setIfInBounds_toArray, List.set_cons_zero, List.set_cons_succ]
        refine callV 12 rfl (by kernel_rfl) (by rfl) (fun K hK => ?_)
        go_simp
        refine (HIR.out _ HX0.out).mono ?_
        rintro e w1 ⟨t1, rfl, ht1, hl1, hb⟩
        have HY1 := Lib.hid hb
        have HX1 := Lib.hid (below_more HX0.out hb HX0.out.size)
        obtain ⟨u1, hu1⟩ := t1.ptr_pointer
        have HE := Lib.hid (HEV.out t1 _ HX1.out ht1 hl1)
        rw [hu1] at HE ⊢
        clear hu1 ht1 hl1
        refine hK.out _ _ (below_more hHeld hb hHeld.size) (fun hHeld2 => ?_)
        clear hK K hHeld hb
        have hHeld := hHeld2
        clear hHeld2
        try simp only [Act.put, List.setIfInBounds_toArray, List.set_cons_zero, List.set_cons_succ]
        refine callV 13 rfl (by kernel_rfl) (by rfl) (fun K hK => ?_)
        go_simp
        refine (HE.out).mono ?_
        rintro e w2 ⟨t2, rfl, ht2, hl2, hb⟩
        have HY2 := Lib.hid hb
        have HX2 := Lib.hid (below_more HX1.out hb HX1.out.size)
        obtain ⟨u2, hu2⟩ := t2.ptr_pointer
        have HFF : Hid (EvEnd w (cutL (l.list ++ q :: r.list) k) (.returned (.pointer u2)) w2) := ⟨t2, by rw [hu2], ht2, hl2, HX2.out⟩
        rw [hu2]
        clear hu2 ht2 hl2 HE
        refine hK.out _ _ (below_more hHeld hb hHeld.size) (fun hHeld2 => ?_)
        clear hK K hHeld hb
        have hHeld := hHeld2
        clear hHeld2
        try simp only [Act.put, List.setIfInBounds_toArray, List.set_cons_zero, List.set_cons_succ]
        refine takeV 14 (some 4) ((.pointer u2)) rfl rfl (by kernel_rfl) (by kernel_rfl) (by kernel_rfl) (fun _ _ _ h => h) (by rfl) (by (intro _w _hSw; (try dsimp only at _hSw); go_simp)) (by assumption) ?_
        simp only [Act.put, List.setIfInBounds_toArray, List.set_cons_zero, List.set_cons_succ]
        refine wpAnyH_done (by kernel_rfl) ?_ _
        go_wp2
        go_ret
        exact HFF.out
      · have g2' : decide (0 < o) = false := decide_eq_false g2
        have HEQ : Hid (k = q.1) := by show _ = _; exact (qo_zero _ _).1 (by rw [HO9.out]; omega)
        go_wp2_with fail
        have HJJ := Lib.hid (HJ.out HEQ.out)
        clear HEL HER HIL HIR HJ g1 g1' g2 g2' ho3
        have HS0 := Lib.hid (qb_dn (Below.refl w.heap.size w) 1)
        obtain ⟨we, hwe⟩ : ∃ X, w.drew = X := ⟨_, rfl⟩
        refine wp_region_held_drew (S := fun X => Below w.heap.size w X) (by kernel_rfl) HS0.out (fun hHeld => ?_)
        rw [hwe] at hHeld ⊢
        clear hwe HS0
        have HX0 := Lib.hid (below_more HD.out hHeld HD.out.size)
        refine takeV 0 (some 51) ((.pointer (some ⟨b, 0, none⟩))) rfl rfl (by kernel_rfl) (by kernel_rfl) (by kernel_rfl) (fun _ _ _ h => h) (by rfl) (by (intro _w _hSw; (try dsimp only at _hSw); go_simp)) (by assumption) ?_
        simp only [Act.put, List.setIfInBounds_toArray, List.set_cons_zero, List.set_cons_succ]
        refine takeV 1 (some 52) ((.pointer (some ⟨b, 0, none⟩))) rfl rfl (by kernel_rfl) (by kernel_rfl) (by kernel_rfl) (fun _ _ _ h => h) (by rfl) (by (intro _w _hSw; (try dsimp only at _hSw); go_simp)) (by assumption) ?_
        simp only [Act.put, List.setIfInBounds_toArray, List.set_cons_zero, List.set_cons_succ]
        refine takeV 2 (some 53) ((.pointer (some ⟨b, 1, none⟩))) rfl rfl (by kernel_rfl) (by kernel_rfl) (by kernel_rfl) (fun _ _ _ h => h) (by rfl) (by (intro _w _hSw; (try dsimp only at _hSw); go_simp)) (by assumption) ?_
        simp only [Act.put, List.setIfInBounds_toArray, List.set_cons_zero, List.set_cons_succ]
        refine takeV 3 (some 54) ((.pointer ul)) rfl rfl (by kernel_rfl) (by kernel_rfl) (by kernel_rfl) (fun _ _ _ h => h) (by rfl) (by (intro _w hSw; have hx := HND.out.next hSw (Nat.le_refl _); have k0 := hx.c0; have k1 := hx.c1; have k2 := hx.c2; have k3 := hx.c3; clear hSw; go_simp)) (by assumption) ?_
        simp only [Act.put, List.setIfInBounds_toArray, List.set_cons_zero, List.set_cons_succ]
        refine takeV 4 (some 55) ((.pointer (some ⟨b, 0, none⟩))) rfl rfl (by kernel_rfl) (by kernel_rfl) (by kernel_rfl) (fun _ _ _ h => h) (by rfl) (by (intro _w _hSw; (try dsimp only at _hSw); go_simp)) (by assumption) ?_
        simp only [Act.put, List.setIfInBounds_toArray, List.set_cons_zero, List.set_cons_succ]
        refine takeV 5 (some 56) ((.pointer (some ⟨b, 0, none⟩))) rfl rfl (by kernel_rfl) (by kernel_rfl) (by kernel_rfl) (fun _ _ _ h => h) (by rfl) (by (intro _w _hSw; (try dsimp only at _hSw); go_simp)) (by assumption) ?_
        simp only [Act.put, List.setIfInBounds_toArray, List.set_cons_zero, List.set_cons_succ]
        refine takeV 6 (some 57) ((.pointer (some ⟨b, 2, none⟩))) rfl rfl (by kernel_rfl) (by kernel_rfl) (by kernel_rfl) (fun _ _ _ h => h) (by rfl) (by (intro _w _hSw; (try dsimp only at _hSw); go_simp)) (by assumption) ?_
        simp only [Act.put, List.setIfInBounds_toArray, List.set_cons_zero, List.set_cons_succ]
        refine takeV 7 (some 58) ((.pointer ur)) rfl rfl (by kernel_rfl) (by kernel_rfl) (by kernel_rfl) (fun _ _ _ h => h) (by rfl) (by (intro _w hSw; have hx := HND.out.next hSw (Nat.le_refl _); have k0 := hx.c0; have k1 := hx.c1; have k2 := hx.c2; have k3 := hx.c3; clear hSw; go_simp)) (by assumption) ?_
        simp only [Act.put, List.setIfInBounds_toArray, List.set_cons_zero, List.set_cons_succ]
        refine callV 8 rfl (by kernel_rfl) (by rfl) (fun K hK => ?_)
        go_simp
        refine (HJJ.out _ HX0.out).mono ?_
        rintro e w1 ⟨t2, rfl, ht2, hl2, hb⟩
        have HY1 := Lib.hid hb
        have HX1 := Lib.hid (below_more HX0.out hb HX0.out.size)
        obtain ⟨u2, hu2⟩ := t2.ptr_pointer
        have HFF : Hid (EvEnd w (cutL (l.list ++ q :: r.list) k) (.returned (.pointer u2)) w1) := ⟨t2, by rw [hu2], ht2, hl2, HX1.out⟩
        rw [hu2]
        clear hu2 ht2 hl2
        refine hK.out _ _ (below_more hHeld hb hHeld.size) (fun hHeld2 => ?_)
        clear hK K hHeld hb
        have hHeld := hHeld2
        clear hHeld2
        try simp only [Act.put, List.setIfInBounds_toArray, List.set_cons_zero, List.set_cons_succ]
        refine takeV 9 (some 4) ((.pointer u2)) rfl rfl (by kernel_rfl) (by kernel_rfl) (by kernel_rfl) (fun _ _ _ h => h) (by rfl) (by (intro _w _hSw; (try dsimp only at _hSw); go_simp)) (by assumption) ?_
        simp only [Act.put, List.setIfInBounds_toArray, List.set_cons_zero, List.set_cons_succ]
        refine wpAnyH_done (by kernel_rfl) ?_ _
        go_wp2
        go_ret
        exact HFF.out
theorem cut_all [LT Gb] : ∀ n, CutP n
  | 0 => by
    intro t w A c k ht hk hR hn hc
    cases t with
    | nil => exact (cut_step (n := 0) (fun t w A c k ht hk hR hn hc => by
        cases t with
        | nil =>
          have hf : EvEnd w (cutL Tr.nil.list k) (.returned (.pointer none)) w := ⟨.nil, rfl, trivial, rfl, Below.refl _ _⟩
          clear hk ht hR hn hc
          simp only [Tr.ptr]
          go_enter Try.func37, Try.ntmps37
          go_wp2
          go_ret
          exact hf
        | nd b q l r => simp only [Tr.cnt] at hn; omega)) .nil w A c k ht hk hR (by simp [Tr.cnt]) hc
    | nd b q l r => simp only [Tr.cnt] at hn; omega
  | n + 1 => cut_step (cut_all n)
theorem cut_any [LT Gb] (t : Tr) (w : World) (A : Option Addr) (c : Nat) (k : By) (ht : TreeAt w t) (hk : SlB w w.heap.size A k) (hR : Rise t.list) (hc : t.cnt ≤ 900000) :
    Calls Try.prog 37 #[t.ptr, .slice A k.length c] w (EvEnd w (cutL t.list k)) := cut_all t.cnt t w A c k ht hk hR (Nat.le_refl _) hc
end Go.Proofs.Ytohpilamoglhcaa
