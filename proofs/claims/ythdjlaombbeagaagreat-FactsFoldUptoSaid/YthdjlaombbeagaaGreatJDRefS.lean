import Derived.Test.YthdjlaombbeagaaGreatJORdRead
import Derived.StillTailTactics
import Derived.Test.YthdjlaombbeagaaGreatJDCmp
import Derived.Test.YthdjlaombbeagaaGreatJFTogR
/-
  CONTRACT: Compare of two lists of parts (the document's), whatever the size of their texts.
-/
namespace Go.Proofs.YthdjlaombbeagaaGreat
open Go.RowKit Go.Shelf

set_option maxRecDepth 100000 in
set_option maxHeartbeats 4000000 in
theorem refCmp_wide (A A' : Option Addr) (c c' : Nat) (a b : List PartP) (w : World) (B : Nat) (hs : SlP w B A a) (hs' : SlP w B A' b) (hB : B ≤ w.heap.size) (_hl : a.length ≤ 50000) (_hl' : b.length ≤ 50000) (hz : ∀ p ∈ a, p.s.size ≤ maxLen) (hz' : ∀ p ∈ b, p.s.size ≤ maxLen) :
    Calls Tryz.prog 113 #[.slice A a.length c, .slice A' b.length c'] w fun e w' => e = .returned (.int .i64 (ordK a b)) ∧ Below w.heap.size w w' := by
  have HZ := Lib.hid hz
  have HZ' := Lib.hid hz'
  have hmx : 50000 ≤ maxLen := by decide
  clear hz hz'
  go_enter Tryz.func113, Tryz.ntmps113
  go_wp2
  go_loopg [5, 6] a.length (fun g x _ wr => ∃ j : Nat, x = .int .i64 j ∧ j + g = a.length ∧ j ≤ b.length ∧ Hid (ordPF a b j = ordK a b) ∧ Hid (Below w.heap.size w wr) ∧ w.heap.size ≤ wr.heap.size)
  case atStart => exact ⟨0, rfl, by omega, by omega, rfl, Below.refl _ _, Nat.le_refl _⟩
  case round =>
    obtain ⟨j, rfl, hj, hjb, HJ, HB, hsz⟩ := hrel
    by_cases h1 : j < a.length ∧ j < b.length
    · obtain ⟨h1, h2⟩ := h1
      have hi1 : (j : Int) < (a.length : Int) := by omega
      have hi2 : (j : Int) < (b.length : Int) := by omega
      obtain ⟨p0, o, rfl, hlt, hp⟩ := (hs.next HB.out hB).at_ h1
      obtain ⟨p0', o', rfl, hlt', hp'⟩ := (hs'.next HB.out hB).at_ h2
      have hst := ordPF_step h1 h2
      have hps := HZ.out _ (List.getElem_mem h1)
      have hps' := HZ'.out _ (List.getElem_mem h2)
      obtain ⟨p, hpe⟩ : ∃ p, a[j] = p := ⟨_, rfl⟩
      obtain ⟨q, hqe⟩ : ∃ q, b[j] = q := ⟨_, rfl⟩
      rw [hpe] at hp hst hps
      rw [hqe] at hp' hst hps'
      have HST := Lib.hid hst
      have a0 := hp.c0
      have a1 := hp.c1
      have a2 := hp.c2
      have a3 := hp.c3
      have a4 := hp.c4
      have b1 := hp'.c1
      have b2 := hp'.c2
      have b3 := hp'.c3
      have b4 := hp'.c4
      clear hp hp' hst hpe hqe
      cases hv : p.v
      · rw [hv] at a0
        have HO := Lib.hid (ordP_num (q := q) hv)
        clear hv
        by_cases h3 : p.n < q.n
        · have HI : Hid (ordPF a b j = -1) := by
            show _ = _
            rw [HST.out, HO.out]; unfold ordI; rw [if_pos h3]; rfl
          go_wp2
          go_quiet (fail)
          go_wp2
          go_ret
          exact ⟨ret_i64 (by rw [← HJ.out, HI.out]), below_dn HB.out _⟩
        · by_cases h4 : q.n < p.n
          · have HI : Hid (ordPF a b j = 1) := by
              show _ = _
              rw [HST.out, HO.out]; unfold ordI; rw [if_neg h3, if_pos h4]; rfl
            go_wp2
            go_quiet (fail)
            go_wp2
            go_quiet (fail)
            go_wp2
            go_ret
            exact ⟨ret_i64 (by rw [← HJ.out, HI.out]), by first | exact below_dn HB.out _ | exact below_dn (below_dn HB.out _) _⟩
          · have HI : Hid (ordPF a b j = ordPF a b (j + 1)) := by
              show _ = _
              rw [HST.out, HO.out]; unfold ordI; rw [if_neg h3, if_neg h4]; rfl
            go_wp2
            go_quiet (fail)
            go_wp2
            go_quiet (fail)
            go_wp2
            go_roundg (gk - 1)
            case measure => omega
            case rel => exact ⟨j + 1, by go_num, by omega, by omega, by rw [← HJ.out, HI.out]; rfl, (by first | exact below_dn HB.out _ | exact below_dn (below_dn HB.out _) _), hsz⟩
      · rw [hv] at a0
        have HO := Lib.hid (ordP_val (q := q) hv)
        clear hv
        go_wp2_with fail
        refine wp_region_held_drew (S := fun W => W.cell? ⟨p0, o + j * 5 + 2, none⟩ = some (.int .i64 p.k) ∧ W.cell? ⟨p0, o + j * 5 + 2 + 1, none⟩ = some (.int .i64 p.m) ∧ W.cell? ⟨p0, o + j * 5 + 2 + 2, none⟩ = some (.string p.s) ∧
            W.cell? ⟨p0', o' + j * 5 + 2, none⟩ = some (.int .i64 q.k) ∧ W.cell? ⟨p0', o' + j * 5 + 2 + 1, none⟩ = some (.int .i64 q.m) ∧ W.cell? ⟨p0', o' + j * 5 + 2 + 2, none⟩ = some (.string q.s) ∧
            Below w.heap.size w W ∧ w.heap.size ≤ W.heap.size) (by kernel_rfl) ⟨a2, a3, a4, b2, b3, b4, below_dr HB.out, hsz⟩ (fun hHeld => ?_)
        clear a0 a1 a2 a3 a4 b1 b2 b3 b4
        refine takeQ 0 24 ((.slice (some ⟨p0, o, none⟩) a.length c)) ?_
        simp only [Act.put, List.setIfInBounds_toArray, List.set_cons_zero, List.set_cons_succ]
        refine takeQ 1 25 ((.int .i64 j)) ?_
        simp only [Act.put, List.setIfInBounds_toArray, List.set_cons_zero, List.set_cons_succ]
        refine takeQ 2 26 ((.pointer (some ⟨p0, o + j * 5, none⟩))) ?_
        simp only [Act.put, List.setIfInBounds_toArray, List.set_cons_zero, List.set_cons_succ]
        refine takeQ 3 27 ((.pointer (some ⟨p0, o + j * 5 + 2, none⟩))) ?_
        simp only [Act.put, List.setIfInBounds_toArray, List.set_cons_zero, List.set_cons_succ]
        refine takeQ 4 28 ((.agg #[.int .i64 p.k, .int .i64 p.m, .string p.s])) ?_
        simp only [Act.put, List.setIfInBounds_toArray, List.set_cons_zero, List.set_cons_succ]
        refine takeQ 5 29 ((.slice (some ⟨p0', o', none⟩) b.length c')) ?_
        simp only [Act.put, List.setIfInBounds_toArray, List.set_cons_zero, List.set_cons_succ]
        refine takeQ 6 30 ((.int .i64 j)) ?_
        simp only [Act.put, List.setIfInBounds_toArray, List.set_cons_zero, List.set_cons_succ]
        refine takeQ 7 31 ((.pointer (some ⟨p0', o' + j * 5, none⟩))) ?_
        simp only [Act.put, List.setIfInBounds_toArray, List.set_cons_zero, List.set_cons_succ]
        refine takeQ 8 32 ((.pointer (some ⟨p0', o' + j * 5 + 2, none⟩))) ?_
        simp only [Act.put, List.setIfInBounds_toArray, List.set_cons_zero, List.set_cons_succ]
        refine takeQ 9 33 ((.agg #[.int .i64 q.k, .int .i64 q.m, .string q.s])) ?_
        simp only [Act.put, List.setIfInBounds_toArray, List.set_cons_zero, List.set_cons_succ]
        refine callV 10 rfl (by kernel_rfl) (by rfl) (fun K hK => ?_)
        go_simp
        go_at_call 78
        refine (refCompare_any _ _ _ _ _ _ _ (by omega) (by omega)).mono ?_
        rintro e w3 ⟨rfl, hb3⟩
        have g3 := s6n (B := w.heap.size) (by omega) (by omega) hHeld hb3
        refine hK.out _ _ g3 (fun hHeld3 => ?_)
        clear hK g3 K hHeld hb3
        try simp only [Act.put, List.setIfInBounds_toArray, List.set_cons_zero, List.set_cons_succ]
        refine takeQ 11 6 ((.int .i64 (ordV p.k p.m p.s q.k q.m q.s))) ?_
        simp only [Act.put, List.setIfInBounds_toArray, List.set_cons_zero, List.set_cons_succ]
        refine wpAnyH_done (by kernel_rfl) ?_ _
        obtain ⟨O, hO⟩ : ∃ O, ordV p.k p.m p.s q.k q.m q.s = O := ⟨_, rfl⟩
        rw [hO]
        have HOO := Lib.hid hO
        have HB3 : Hid (Below w.heap.size w w3) := hHeld3.2.2.2.2.2.2.1
        have hsz3 : w.heap.size ≤ w3.heap.size := hHeld3.2.2.2.2.2.2.2
        clear hO hHeld3
        by_cases h0 : O = 0
        · have HI : Hid (ordPF a b j = ordPF a b (j + 1)) := by
            show _ = _
            rw [HST.out, HO.out, HOO.out, if_pos h0]
          subst h0
          go_wp2
          go_roundg (gk - 1)
          case measure => omega
          case rel => exact ⟨j + 1, by go_num, by omega, by omega, by rw [← HJ.out, HI.out]; rfl, HB3.out, hsz3⟩
        · have HI : Hid (ordPF a b j = O) := by
            show _ = _
            rw [HST.out, HO.out, HOO.out, if_neg h0]
          have hb0 : (O != 0) = true := by simpa using h0
          clear h0
          go_wp2
          go_ret
          exact ⟨ret_i64 (by rw [← HJ.out, HI.out]), HB3.out⟩
    · have HE := Lib.hid (ordPF_end (a := a) (b := b) (j := j) (by omega))
      by_cases h2 : j < a.length
      · have hi1 : (j : Int) < (a.length : Int) := by omega
        have hi2 : ¬ (j : Int) < (b.length : Int) := by omega
        go_wp2
        go_ret
        exact ⟨ret_i64 (by rw [← HJ.out, HE.out]), HB.out⟩
      · have hi1 : ¬ (j : Int) < (a.length : Int) := by omega
        go_wp2
        go_ret
        exact ⟨ret_i64 (by rw [← HJ.out, HE.out]), HB.out⟩

end Go.Proofs.YthdjlaombbeagaaGreat

/-
  CONTRACT: the document's Sorted of datoms.
-/
namespace Go.Proofs.YthdjlaombbeagaaGreat
open Go.RowKit Go.Shelf

set_option maxRecDepth 100000 in
set_option maxHeartbeats 1000000 in
theorem rCmp_wide (o : Int) (a b : Dat) (w : World) (hza : a.s.size ≤ maxLen) (hzb : b.s.size ≤ maxLen) : Calls Tryz.prog 80 #[.int .i64 o, .agg #[.int .i64 a.e, .int .i64 a.a, .int .i64 a.k, .int .i64 a.m, .string a.s, .int .i64 a.t, .bool a.add, .int .i64 a.fr, .int .i64 a.til], .agg #[.int .i64 b.e, .int .i64 b.a, .int .i64 b.k, .int .i64 b.m, .string b.s, .int .i64 b.t, .bool b.add, .int .i64 b.fr, .int .i64 b.til]] w fun e w' => e = .returned (.int .i64 (ordD o a b)) ∧ Below w.heap.size w w' := by
  cases ho : isO o
  · have HE : Hid (ordD o a b = 0) := by show _ = _; unfold ordD; rw [ho]; rfl
    rcases noO ho with h | ⟨h, h'⟩
    · clear ho
      go_enter Tryz.func80, Tryz.ntmps80
      go_wp2
      go_ret
      exact ⟨by rw [HE.out]; rfl, ((Below.refl _ _).alloc (Nat.le_refl _) _).alloc (by simp) _⟩
    · clear ho
      go_enter Tryz.func80, Tryz.ntmps80
      go_wp2
      go_ret
      exact ⟨by rw [HE.out]; rfl, ((Below.refl _ _).alloc (Nat.le_refl _) _).alloc (by simp) _⟩
  · have HE : Hid (ordD o a b = ordK (partsD o a) (partsD o b)) := by show _ = _; unfold ordD; rw [if_pos ho]
    obtain ⟨h, h'⟩ := yesO ho
    have HO := Lib.hid ho
    have HB0 : Hid (Below w.heap.size w ((w.alloc (.cells #[.int .i64 a.e, .int .i64 a.a, .int .i64 a.k, .int .i64 a.m, .string a.s, .int .i64 a.t, .bool a.add, .int .i64 a.fr, .int .i64 a.til] 44)).alloc (.cells #[.int .i64 b.e, .int .i64 b.a, .int .i64 b.k, .int .i64 b.m, .string b.s, .int .i64 b.t, .bool b.add, .int .i64 b.fr, .int .i64 b.til] 44))) := ((Below.refl _ _).alloc (Nat.le_refl _) _).alloc (by simp) _
    have HDB : Hid (DatAt ((w.alloc (.cells #[.int .i64 a.e, .int .i64 a.a, .int .i64 a.k, .int .i64 a.m, .string a.s, .int .i64 a.t, .bool a.add, .int .i64 a.fr, .int .i64 a.til] 44)).alloc (.cells #[.int .i64 b.e, .int .i64 b.a, .int .i64 b.k, .int .i64 b.m, .string b.s, .int .i64 b.t, .bool b.add, .int .i64 b.fr, .int .i64 b.til] 44)) (w.heap.size + 1) b) := by
      have := datAt_new (w.alloc (.cells #[.int .i64 a.e, .int .i64 a.a, .int .i64 a.k, .int .i64 a.m, .string a.s, .int .i64 a.t, .bool a.add, .int .i64 a.fr, .int .i64 a.til] 44)) b
      rwa [World.size_alloc] at this
    clear ho
    go_enter Tryz.func80, Tryz.ntmps80
    go_wp2_with fail
    refine (refParts_any o a _ HO.out).mono ?_
    rintro e w1 ⟨v, rfl, ho1, hb⟩
    obtain ⟨A1, c1, rfl, hs1⟩ := ho1.slp
    have HB1 := Lib.hid (HB0.out.trans (hb.mono HB0.out.size))
    have hx := HDB.out.next hb (by simp)
    have c0 := hx.c0
    have c1' := hx.c1
    have c2 := hx.c2
    have c3 := hx.c3
    have c4 := hx.c4
    have c5 := hx.c5
    have c6 := hx.c6
    have c7 := hx.c7
    have c8 := hx.c8
    have HS1 := Lib.hid hs1
    clear hb hx ho1 hs1
    go_wp2_with fail
    refine (refParts_any o b _ HO.out).mono ?_
    rintro e w2 ⟨v, rfl, ho2, hb⟩
    obtain ⟨A2, c9, rfl, hs2⟩ := ho2.slp
    have HB2 := Lib.hid (HB1.out.trans (hb.mono HB1.out.size))
    have HS1' := Lib.hid ((HS1.out.next hb (Nat.le_refl _)).more hb.size)
    have HS2 := Lib.hid hs2
    clear hb ho2 hs2 HS1 c0 c1' c2 c3 c4 c5 c6 c7 c8
    go_wp2_with fail
    refine (refCmp_wide A1 A2 c1 c9 (partsD o a) (partsD o b) _ _ HS1'.out HS2.out (Nat.le_refl _) (by rw [partsD_len]; omega) (by rw [partsD_len]; omega) (fun p hp => Nat.le_trans (partsD_size p hp) hza) (fun p hp => Nat.le_trans (partsD_size p hp) hzb)).mono ?_
    rintro e w3 ⟨rfl, hb⟩
    have HB3 := Lib.hid (HB2.out.trans (hb.mono HB2.out.size))
    clear hb
    go_wp2
    go_ret
    exact ⟨by rw [HE.out]; rfl, HB3.out⟩


theorem putsG_snoc {α : Type} (o : α → α → Int) (l : List α) (x : α) : putsG o (l ++ [x]) = putG o (putsG o l) x := by
  unfold putsG
  rw [List.foldl_append]; rfl
theorem filter_take {α : Type} (p : α → Bool) {l : List α} {j : Nat} (h : j < l.length) : (l.take (j + 1)).filter p = (l.take j).filter p ++ (if p l[j] then [l[j]] else []) := by
  rw [List.take_succ_eq_append_getElem h, List.filter_append]
  congr 1
  cases hq : p l[j] <;> simp [hq]
/-- what the document's Sorted answers -/
def sortsD (o : Int) (l : List Dat) : List Dat := if isO o = true then putsG (ordD o) (l.filter (hasD o)) else []
/-- what the comparing regions read -/
def CsD (N ba oa bb ob : Nat) (x y : Dat) (W : World) : Prop := DtAt W ba oa x ∧ DtAt W bb ob y ∧ (ba < N ∧ bb < N) ∧ N ≤ W.heap.size
theorem CsD.next {N ba oa bb ob : Nat} {x y : Dat} {W W' : World} (h : CsD N ba oa bb ob x y W) (hb : Below W.heap.size W W') : CsD N ba oa bb ob x y W' :=
  ⟨h.1.next hb (by have := h.2.2; omega), h.2.1.next hb (by have := h.2.2; omega), h.2.2.1, Nat.le_trans h.2.2.2 hb.size⟩

set_option maxRecDepth 100000 in
set_option maxHeartbeats 2000000 in
theorem refSortD_yes (o : Int) (ho : isO o = true) (A : Option Addr) (c : Nat) (l : List Dat) (w : World) (hs : SlD w w.heap.size A l) (hl : l.length * 80 ≤ 140737488355328) (hz : ∀ v ∈ l, v.s.size ≤ maxLen) :
    Calls Tryz.prog 51 #[.int .i64 o, .slice A l.length c] w fun e w' => ∃ v, e = .returned v ∧ OwnD w' w.heap.size v (putsG (ordD o) (l.filter (hasD o))) ∧ Below w.heap.size w w' := by
  obtain ⟨i0, hi, hz0, hz1, hz2⟩ := info_parts infoD
  have hmx : 2000000000000 ≤ maxLen := by decide
  have HS := Lib.hid hs
  have HZ := Lib.hid hz
  have HIS := Lib.hid (ordD_is ho)
  have HOO := Lib.hid ho
  obtain ⟨ho1, ho2⟩ := yesO ho
  have ho3 : ¬ o < 1 := by omega
  have ho4 : ¬ 4 < o := by omega
  clear hs hz ho
  go_enter Tryz.func51, Tryz.ntmps51
  go_wp2
  go_loopg [5, 6, 7, 8, 9] l.length (fun g x y _ _ _ wv => ∃ (j : Nat) (acc : List Dat), OwnD wv w.heap.size x acc ∧ y = .int .i64 j ∧ j + g = l.length ∧ acc.length ≤ j ∧ Hid (acc = putsG (ordD o) ((l.take j).filter (hasD o))) ∧ Hid (Below w.heap.size w wv) ∧ w.heap.size ≤ wv.heap.size)
  case atStart => exact ⟨0, [], World.ownsRow_nil _ _ _ _, rfl, by omega, Nat.le_refl _, rfl, Below.refl _ _, Nat.le_refl _⟩
  case round =>
    rename World => wv
    obtain ⟨j, acc, ho, rfl, hj, haj, HA, HB, hsz⟩ := hrel
    obtain ⟨A1, c1, rfl, hsA, hl1, hc1, hn1, _⟩ := ho.form
    have HO := Lib.hid ho
    have HSA := Lib.hid hsA
    have HN1 := Lib.hid hn1
    clear ho hsA hn1
    cases gk with
    | zero =>
      have hjz : ¬ ((j : Int) < (l.length : Int)) := by omega
      have HE : Hid (acc = putsG (ordD o) (l.filter (hasD o))) := by
        have := HA.out
        rw [List.take_of_length_le (by omega)] at this
        exact this
      go_wp2
      go_ret
      exact ⟨_, rfl, by rw [← HE.out]; exact HO.out, HB.out⟩
    | succ g =>
      have hjz : (j : Int) < (l.length : Int) := by omega
      have hjn : j < l.length := by omega
      have hxz := HZ.out _ (List.getElem_mem hjn)
      have hft := filter_take (hasD o) hjn
      obtain ⟨b, q, rfl, hblt, hp⟩ := (HS.out.next HB.out (Nat.le_refl _)).at_ hjn
      obtain ⟨x, hpe⟩ : ∃ p, l[j] = p := ⟨_, rfl⟩
      rw [hpe] at hp hxz hft
      have HPV := Lib.hid hp
      have HFT := Lib.hid hft
      have m0 := hp.c0
      have m1 := hp.c1
      have m2 := hp.c2
      have m3 := hp.c3
      have m4 := hp.c4
      have m5 := hp.c5
      have m6 := hp.c6
      have m7 := hp.c7
      have m8 := hp.c8
      have HAZ : Hid (∀ v ∈ acc, v.s.size ≤ maxLen) := fun v hv => by
        rw [HA.out] at hv
        have := ((putsG_from HIS.out ((l.take j).filter (hasD o)) [] List.Pairwise.nil).2 v).1 hv
        rcases this with h | h
        · cases h
        · exact HZ.out v (List.mem_of_mem_take (List.mem_filter.1 h).1)
      have hal : acc.length ≤ j := haj
      clear hp hpe hft
      go_wp2_with fail
      refine (rHas_any o x _).mono ?_
      rintro e wo ⟨rfl, hbh⟩
      have HBV := HB
      have HB : Hid (Below w.heap.size w wo) := HBV.out.trans (hbh.mono hsz)
      have hszV := hsz
      have hsz : w.heap.size ≤ wo.heap.size := HB.out.size
      have hbl2 : b < wo.heap.size := by omega
      have HO := Lib.hid (HO.out.next hbh)
      have HSA := Lib.hid ((HSA.out.next hbh (Nat.le_refl _)).more hbh.size)
      have HP := Lib.hid (HPV.out.next hbh (Nat.lt_of_lt_of_le hblt hszV))
      clear hbh m0 m1 m2 m3 m4 m5 m6 m7 m8
      obtain ⟨hh, hhe⟩ : ∃ hh, hasD o x = hh := ⟨_, rfl⟩
      rw [hhe] at HFT ⊢
      clear hhe
      cases hh with
      | false =>
        have HE : Hid (acc = putsG (ordD o) ((l.take (j + 1)).filter (hasD o))) := by show _ = _; rw [HFT.out, HA.out]; simp
        go_wp2
        go_roundg g
        case measure => omega
        case rel => exact ⟨j + 1, acc, HO.out, by go_num, by omega, by omega, HE.out, HB.out, hsz⟩
      | true =>
      have HPT : Hid (putsG (ordD o) ((l.take (j + 1)).filter (hasD o)) = putG (ordD o) acc x) := by show _ = _; rw [HFT.out, HA.out, if_pos rfl, putsG_snoc]
      obtain ⟨P, hP⟩ : ∃ P, putAt (ordD o) x acc = P := ⟨_, rfl⟩
      have hPl : P ≤ acc.length := by rw [← hP]; exact putAt_le x acc
      have hlt := fun i y h hy => putAt_ltQ (o := (ordD o)) (x := x) (y := y) (l := acc) (i := i) h hy
      have hen := fun y hy => putAt_endQ (o := (ordD o)) (x := x) (y := y) (l := acc) hy
      have hold := fun y hy h0 => putG_oldQ (o := (ordD o)) (x := x) (y := y) (l := acc) hy h0
      have hnew := fun h0 => putG_newQ (o := (ordD o)) (x := x) (l := acc) h0
      rw [hP] at hlt hen hold hnew
      have HLT := Lib.hid hlt
      have HEN := Lib.hid hen
      have HOLD := Lib.hid hold
      have HNEW := Lib.hid hnew
      clear hP hlt hen hold hnew
      go_wp2
      go_loopg [8] P (fun g y wi => ∃ a : Nat, y = .int .i64 a ∧ a + g = P ∧ Hid (Below wo.heap.size wo wi) ∧ wo.heap.size ≤ wi.heap.size)
      case atStart => exact ⟨0, rfl, by omega, Below.refl _ _, Nat.le_refl _⟩
      case round =>
        rename World => wi
        obtain ⟨a, rfl, ha, HBi, hszi⟩ := hrel
        cases gk with
        | succ g2 =>
          have ham : (a : Int) < (acc.length : Int) := by omega
          have han : a < acc.length := by omega
          have hOO := HLT.out a acc[a] (by omega) (List.getElem?_eq_getElem han)
          have HYZ := Lib.hid (HAZ.out _ (List.getElem_mem han))
          obtain ⟨bA, oA, rfl, hbl, hpa⟩ := (HSA.out.next HBi.out (Nat.le_refl _)).at_ han
          obtain ⟨y, hye⟩ : ∃ y, acc[a] = y := ⟨_, rfl⟩
          rw [hye] at hpa hOO HYZ
          have HBB : Hid (bA < wi.heap.size ∧ b < wi.heap.size) := by show _ ∧ _; omega
          have HYA1 := Lib.hid hpa
          have HXA1 := Lib.hid (HP.out.next HBi.out (by omega))
          obtain ⟨O, hO⟩ : ∃ O, ordD o y x = O := ⟨_, rfl⟩
          have hOl : O < 0 := by rw [← hO]; exact hOO
          have HO1 := Lib.hid hO
          clear hpa hye hOO hO
          have HSD1 : Hid (CsD wi.heap.size bA (oA + a * 9) b (q + j * 9) y x wi.drew) := ⟨HYA1.out.drew, HXA1.out.drew, by have := HBB.out; omega, Nat.le_refl _⟩
          obtain ⟨wd1, hwd1⟩ : ∃ wd, wi.drew = wd := ⟨_, rfl⟩
          have HBD1 : Hid (Below wo.heap.size wo wd1) := by rw [← hwd1]; exact HBi.out.drew
          rw [hwd1] at HSD1
          go_wp2_with fail
          refine wp_region_held_drew (S := CsD wi.heap.size bA (oA + a * 9) b (q + j * 9) y x) (by kernel_rfl) (by rw [hwd1]; exact HSD1.out) (fun hHeld => ?_)
          rw [hwd1] at hHeld ⊢
          clear hwd1
          refine takeQ 0 30 ((.int .i64 a)) ?_
          simp only [Act.put, List.setIfInBounds_toArray, List.set_cons_zero, List.set_cons_succ]
          refine takeQ 1 31 ((.slice (some ⟨bA, oA, none⟩) acc.length c1)) ?_
          simp only [Act.put, List.setIfInBounds_toArray, List.set_cons_zero, List.set_cons_succ]
          refine takeQ 2 32 ((.int .i64 acc.length)) ?_
          simp only [Act.put, List.setIfInBounds_toArray, List.set_cons_zero, List.set_cons_succ]
          refine takeQ 3 33 ((.bool true)) ?_
          simp only [Act.put, List.setIfInBounds_toArray, List.set_cons_zero, List.set_cons_succ]
          refine takeQ 4 34 ((.bool true)) ?_
          simp only [Act.put, List.setIfInBounds_toArray, List.set_cons_zero, List.set_cons_succ]
          refine takeQ 5 35 ((.int .i64 o)) ?_
          simp only [Act.put, List.setIfInBounds_toArray, List.set_cons_zero, List.set_cons_succ]
          refine takeQ 6 36 ((.slice (some ⟨bA, oA, none⟩) acc.length c1)) ?_
          simp only [Act.put, List.setIfInBounds_toArray, List.set_cons_zero, List.set_cons_succ]
          refine takeQ 7 37 ((.int .i64 a)) ?_
          simp only [Act.put, List.setIfInBounds_toArray, List.set_cons_zero, List.set_cons_succ]
          refine takeQ 8 38 ((.pointer (some ⟨bA, oA + a * 9, none⟩))) ?_
          simp only [Act.put, List.setIfInBounds_toArray, List.set_cons_zero, List.set_cons_succ]
          refine takeQ 9 39 ((.agg #[.int .i64 y.e, .int .i64 y.a, .int .i64 y.k, .int .i64 y.m, .string y.s, .int .i64 y.t, .bool y.add, .int .i64 y.fr, .int .i64 y.til])) ?_ (hy := by (intro _w hSw; have k0 := hSw.1.c0; have k1 := hSw.1.c1; have k2 := hSw.1.c2; have k3 := hSw.1.c3; have k4 := hSw.1.c4; have k5 := hSw.1.c5; have k6 := hSw.1.c6; have k7 := hSw.1.c7; have k8 := hSw.1.c8; clear hSw; go_simp))
          simp only [Act.put, List.setIfInBounds_toArray, List.set_cons_zero, List.set_cons_succ]
          refine takeQ 10 40 ((.slice (some ⟨b, q, none⟩) l.length c)) ?_
          simp only [Act.put, List.setIfInBounds_toArray, List.set_cons_zero, List.set_cons_succ]
          refine takeQ 11 41 ((.int .i64 j)) ?_
          simp only [Act.put, List.setIfInBounds_toArray, List.set_cons_zero, List.set_cons_succ]
          refine takeQ 12 42 ((.pointer (some ⟨b, q + j * 9, none⟩))) ?_
          simp only [Act.put, List.setIfInBounds_toArray, List.set_cons_zero, List.set_cons_succ]
          refine takeQ 13 43 ((.agg #[.int .i64 x.e, .int .i64 x.a, .int .i64 x.k, .int .i64 x.m, .string x.s, .int .i64 x.t, .bool x.add, .int .i64 x.fr, .int .i64 x.til])) ?_ (hy := by (intro _w hSw; have k0 := hSw.2.1.c0; have k1 := hSw.2.1.c1; have k2 := hSw.2.1.c2; have k3 := hSw.2.1.c3; have k4 := hSw.2.1.c4; have k5 := hSw.2.1.c5; have k6 := hSw.2.1.c6; have k7 := hSw.2.1.c7; have k8 := hSw.2.1.c8; clear hSw; go_simp))
          simp only [Act.put, List.setIfInBounds_toArray, List.set_cons_zero, List.set_cons_succ]
          refine callV 14 rfl (by kernel_rfl) (by rfl) (fun K hK => ?_)
          go_simp
          refine (rCmp_wide o y x _ HYZ.out hxz).mono ?_
          rintro e w3 ⟨rfl, hb3⟩
          have HB3_1 := Lib.hid (HBD1.out.trans (hb3.mono HBD1.out.size))
          rw [HO1.out]
          refine hK.out _ _ (CsD.next hHeld hb3) (fun hHeld2 => ?_)
          have HY1 := Lib.hid hHeld2.1
          have HX1 := Lib.hid hHeld2.2.1
          clear hK K hHeld hb3
          try simp only [Act.put, List.setIfInBounds_toArray, List.set_cons_zero, List.set_cons_succ]
          refine takeQ 15 45 ((.bool true)) ?_
          simp only [Act.put, List.setIfInBounds_toArray, List.set_cons_zero, List.set_cons_succ]
          refine takeQ 16 46 ((.bool true)) ?_
          simp only [Act.put, List.setIfInBounds_toArray, List.set_cons_zero, List.set_cons_succ]
          refine wpAnyH_done (by kernel_rfl) ?_ _
          clear HY1 HX1 HYA1 HXA1 HSD1
          go_wp2
          go_roundg g2
          case measure => omega
          case rel => exact ⟨a + 1, by go_num, by omega, HB3_1.out, HB3_1.out.size⟩
        | zero =>
          obtain rfl : a = P := by omega
          by_cases hPc : a < acc.length
          · have ham : (a : Int) < (acc.length : Int) := by omega
            have hOO := HEN.out acc[a] (List.getElem?_eq_getElem hPc)
            have HYZ := Lib.hid (HAZ.out _ (List.getElem_mem hPc))
            have hye0 : acc[a]? = some acc[a] := List.getElem?_eq_getElem hPc
            obtain ⟨bA, oA, rfl, hbl, hpa⟩ := (HSA.out.next HBi.out (Nat.le_refl _)).at_ hPc
            obtain ⟨y, hye⟩ : ∃ y, acc[a] = y := ⟨_, rfl⟩
            rw [hye] at hpa hOO HYZ hye0
            have HYE := Lib.hid hye0
            have HBB : Hid (bA < wo.heap.size ∧ b < wo.heap.size) := by show _ ∧ _; omega
            have HYA1 := Lib.hid hpa
            have HXA1 := Lib.hid (HP.out.next HBi.out (by omega))
            obtain ⟨O, hO⟩ : ∃ O, ordD o y x = O := ⟨_, rfl⟩
            have hOl : ¬ O < 0 := by rw [← hO]; exact Int.not_lt.2 hOO
            have hOT : ordD o y x = O := hO
            have HOT := Lib.hid hOT
            have HO1 := Lib.hid hO
            clear hpa hye hye0 hOO hO hOT
            have HSD1 : Hid (CsD wi.heap.size bA (oA + a * 9) b (q + j * 9) y x wi.drew) := ⟨HYA1.out.drew, HXA1.out.drew, by have := HBB.out; omega, Nat.le_refl _⟩
            obtain ⟨wd1, hwd1⟩ : ∃ wd, wi.drew = wd := ⟨_, rfl⟩
            have HBD1 : Hid (Below wo.heap.size wo wd1) := by rw [← hwd1]; exact HBi.out.drew
            rw [hwd1] at HSD1
            go_wp2_with fail
            refine wp_region_held_drew (S := CsD wi.heap.size bA (oA + a * 9) b (q + j * 9) y x) (by kernel_rfl) (by rw [hwd1]; exact HSD1.out) (fun hHeld => ?_)
            rw [hwd1] at hHeld ⊢
            clear hwd1
            refine takeQ 0 30 ((.int .i64 a)) ?_
            simp only [Act.put, List.setIfInBounds_toArray, List.set_cons_zero, List.set_cons_succ]
            refine takeQ 1 31 ((.slice (some ⟨bA, oA, none⟩) acc.length c1)) ?_
            simp only [Act.put, List.setIfInBounds_toArray, List.set_cons_zero, List.set_cons_succ]
            refine takeQ 2 32 ((.int .i64 acc.length)) ?_
            simp only [Act.put, List.setIfInBounds_toArray, List.set_cons_zero, List.set_cons_succ]
            refine takeQ 3 33 ((.bool true)) ?_
            simp only [Act.put, List.setIfInBounds_toArray, List.set_cons_zero, List.set_cons_succ]
            refine takeQ 4 34 ((.bool true)) ?_
            simp only [Act.put, List.setIfInBounds_toArray, List.set_cons_zero, List.set_cons_succ]
            refine takeQ 5 35 ((.int .i64 o)) ?_
            simp only [Act.put, List.setIfInBounds_toArray, List.set_cons_zero, List.set_cons_succ]
            refine takeQ 6 36 ((.slice (some ⟨bA, oA, none⟩) acc.length c1)) ?_
            simp only [Act.put, List.setIfInBounds_toArray, List.set_cons_zero, List.set_cons_succ]
            refine takeQ 7 37 ((.int .i64 a)) ?_
            simp only [Act.put, List.setIfInBounds_toArray, List.set_cons_zero, List.set_cons_succ]
            refine takeQ 8 38 ((.pointer (some ⟨bA, oA + a * 9, none⟩))) ?_
            simp only [Act.put, List.setIfInBounds_toArray, List.set_cons_zero, List.set_cons_succ]
            refine takeQ 9 39 ((.agg #[.int .i64 y.e, .int .i64 y.a, .int .i64 y.k, .int .i64 y.m, .string y.s, .int .i64 y.t, .bool y.add, .int .i64 y.fr, .int .i64 y.til])) ?_ (hy := by (intro _w hSw; have k0 := hSw.1.c0; have k1 := hSw.1.c1; have k2 := hSw.1.c2; have k3 := hSw.1.c3; have k4 := hSw.1.c4; have k5 := hSw.1.c5; have k6 := hSw.1.c6; have k7 := hSw.1.c7; have k8 := hSw.1.c8; clear hSw; go_simp))
            simp only [Act.put, List.setIfInBounds_toArray, List.set_cons_zero, List.set_cons_succ]
            refine takeQ 10 40 ((.slice (some ⟨b, q, none⟩) l.length c)) ?_
            simp only [Act.put, List.setIfInBounds_toArray, List.set_cons_zero, List.set_cons_succ]
            refine takeQ 11 41 ((.int .i64 j)) ?_
            simp only [Act.put, List.setIfInBounds_toArray, List.set_cons_zero, List.set_cons_succ]
            refine takeQ 12 42 ((.pointer (some ⟨b, q + j * 9, none⟩))) ?_
            simp only [Act.put, List.setIfInBounds_toArray, List.set_cons_zero, List.set_cons_succ]
            refine takeQ 13 43 ((.agg #[.int .i64 x.e, .int .i64 x.a, .int .i64 x.k, .int .i64 x.m, .string x.s, .int .i64 x.t, .bool x.add, .int .i64 x.fr, .int .i64 x.til])) ?_ (hy := by (intro _w hSw; have k0 := hSw.2.1.c0; have k1 := hSw.2.1.c1; have k2 := hSw.2.1.c2; have k3 := hSw.2.1.c3; have k4 := hSw.2.1.c4; have k5 := hSw.2.1.c5; have k6 := hSw.2.1.c6; have k7 := hSw.2.1.c7; have k8 := hSw.2.1.c8; clear hSw; go_simp))
            simp only [Act.put, List.setIfInBounds_toArray, List.set_cons_zero, List.set_cons_succ]
            refine callV 14 rfl (by kernel_rfl) (by rfl) (fun K hK => ?_)
            go_simp
            refine (rCmp_wide o y x _ HYZ.out hxz).mono ?_
            rintro e w3 ⟨rfl, hb3⟩
            have HB3_1 := Lib.hid (HBD1.out.trans (hb3.mono HBD1.out.size))
            rw [HO1.out]
            refine hK.out _ _ (CsD.next hHeld hb3) (fun hHeld2 => ?_)
            have HY1 := Lib.hid hHeld2.1
            have HX1 := Lib.hid hHeld2.2.1
            clear hK K hHeld hb3
            try simp only [Act.put, List.setIfInBounds_toArray, List.set_cons_zero, List.set_cons_succ]
            refine takeQ 15 45 ((.bool false)) ?_
            simp only [Act.put, List.setIfInBounds_toArray, List.set_cons_zero, List.set_cons_succ]
            refine takeQ 16 46 ((.bool false)) ?_
            simp only [Act.put, List.setIfInBounds_toArray, List.set_cons_zero, List.set_cons_succ]
            refine wpAnyH_done (by kernel_rfl) ?_ _
            have HYA1 := HY1
            have HXA1 := HX1
            have HBi := HB3_1
            have hszi := HB3_1.out.size
            clear HY1 HX1 HSD1 HBD1
            by_cases h0 : O = 0
            · have hOe : (O == 0) = true := by rw [h0]; rfl
              have HE : Hid (putsG (ordD o) ((l.take (j + 1)).filter (hasD o)) = acc) := HPT.out.trans (HOLD.out y HYE.out (by rw [HOT.out, h0]))
              clear h0
              have HSD1 : Hid (CsD w3.heap.size bA (oA + a * 9) b (q + j * 9) y x w3.drew) := ⟨HYA1.out.drew, HXA1.out.drew, by have := HBB.out; omega, Nat.le_refl _⟩
              obtain ⟨wd1, hwd1⟩ : ∃ wd, w3.drew = wd := ⟨_, rfl⟩
              have HBD1 : Hid (Below wo.heap.size wo wd1) := by rw [← hwd1]; exact HBi.out.drew
              rw [hwd1] at HSD1
              go_wp2_with fail
              refine wp_region_held_drew (S := CsD w3.heap.size bA (oA + a * 9) b (q + j * 9) y x) (by kernel_rfl) (by rw [hwd1]; exact HSD1.out) (fun hHeld => ?_)
              rw [hwd1] at hHeld ⊢
              clear hwd1
              refine takeQ 0 49 ((.int .i64 a)) ?_
              simp only [Act.put, List.setIfInBounds_toArray, List.set_cons_zero, List.set_cons_succ]
              refine takeQ 1 50 ((.slice (some ⟨bA, oA, none⟩) acc.length c1)) ?_
              simp only [Act.put, List.setIfInBounds_toArray, List.set_cons_zero, List.set_cons_succ]
              refine takeQ 2 51 ((.int .i64 acc.length)) ?_
              simp only [Act.put, List.setIfInBounds_toArray, List.set_cons_zero, List.set_cons_succ]
              refine takeQ 3 52 ((.bool true)) ?_
              simp only [Act.put, List.setIfInBounds_toArray, List.set_cons_zero, List.set_cons_succ]
              refine takeQ 4 53 ((.bool true)) ?_
              simp only [Act.put, List.setIfInBounds_toArray, List.set_cons_zero, List.set_cons_succ]
              refine takeQ 5 54 ((.int .i64 o)) ?_
              simp only [Act.put, List.setIfInBounds_toArray, List.set_cons_zero, List.set_cons_succ]
              refine takeQ 6 55 ((.slice (some ⟨bA, oA, none⟩) acc.length c1)) ?_
              simp only [Act.put, List.setIfInBounds_toArray, List.set_cons_zero, List.set_cons_succ]
              refine takeQ 7 56 ((.int .i64 a)) ?_
              simp only [Act.put, List.setIfInBounds_toArray, List.set_cons_zero, List.set_cons_succ]
              refine takeQ 8 57 ((.pointer (some ⟨bA, oA + a * 9, none⟩))) ?_
              simp only [Act.put, List.setIfInBounds_toArray, List.set_cons_zero, List.set_cons_succ]
              refine takeQ 9 58 ((.agg #[.int .i64 y.e, .int .i64 y.a, .int .i64 y.k, .int .i64 y.m, .string y.s, .int .i64 y.t, .bool y.add, .int .i64 y.fr, .int .i64 y.til])) ?_ (hy := by (intro _w hSw; have k0 := hSw.1.c0; have k1 := hSw.1.c1; have k2 := hSw.1.c2; have k3 := hSw.1.c3; have k4 := hSw.1.c4; have k5 := hSw.1.c5; have k6 := hSw.1.c6; have k7 := hSw.1.c7; have k8 := hSw.1.c8; clear hSw; go_simp))
              simp only [Act.put, List.setIfInBounds_toArray, List.set_cons_zero, List.set_cons_succ]
              refine takeQ 10 59 ((.slice (some ⟨b, q, none⟩) l.length c)) ?_
              simp only [Act.put, List.setIfInBounds_toArray, List.set_cons_zero, List.set_cons_succ]
              refine takeQ 11 60 ((.int .i64 j)) ?_
              simp only [Act.put, List.setIfInBounds_toArray, List.set_cons_zero, List.set_cons_succ]
              refine takeQ 12 61 ((.pointer (some ⟨b, q + j * 9, none⟩))) ?_
              simp only [Act.put, List.setIfInBounds_toArray, List.set_cons_zero, List.set_cons_succ]
              refine takeQ 13 62 ((.agg #[.int .i64 x.e, .int .i64 x.a, .int .i64 x.k, .int .i64 x.m, .string x.s, .int .i64 x.t, .bool x.add, .int .i64 x.fr, .int .i64 x.til])) ?_ (hy := by (intro _w hSw; have k0 := hSw.2.1.c0; have k1 := hSw.2.1.c1; have k2 := hSw.2.1.c2; have k3 := hSw.2.1.c3; have k4 := hSw.2.1.c4; have k5 := hSw.2.1.c5; have k6 := hSw.2.1.c6; have k7 := hSw.2.1.c7; have k8 := hSw.2.1.c8; clear hSw; go_simp))
              simp only [Act.put, List.setIfInBounds_toArray, List.set_cons_zero, List.set_cons_succ]
              refine callV 14 rfl (by kernel_rfl) (by rfl) (fun K hK => ?_)
              go_simp
              refine (rCmp_wide o y x _ HYZ.out hxz).mono ?_
              rintro e wq ⟨rfl, hb3⟩
              have HB3_1 := Lib.hid (HBD1.out.trans (hb3.mono HBD1.out.size))
              rw [HO1.out]
              refine hK.out _ _ (CsD.next hHeld hb3) (fun hHeld2 => ?_)
              have HY1 := Lib.hid hHeld2.1
              have HX1 := Lib.hid hHeld2.2.1
              clear hK K hHeld hb3
              try simp only [Act.put, List.setIfInBounds_toArray, List.set_cons_zero, List.set_cons_succ]
              refine takeQ 15 64 ((.bool true)) ?_
              simp only [Act.put, List.setIfInBounds_toArray, List.set_cons_zero, List.set_cons_succ]
              refine takeQ 16 65 ((.bool true)) ?_
              simp only [Act.put, List.setIfInBounds_toArray, List.set_cons_zero, List.set_cons_succ]
              refine wpAnyH_done (by kernel_rfl) ?_ _
              have hB := HB3_1.out
              clear HY1 HX1 HYA1 HXA1 HSD1
              go_wp2
              go_roundg g
              case measure => omega
              case rel => exact ⟨j + 1, acc, HO.out.next hB, by go_num, by omega, by omega, HE.out.symm, HB.out.trans (hB.mono hsz), by have := hB.size; omega⟩
            · have hOe : (O == 0) = false := beq_eq_false_iff_ne.2 h0
              have HNX : Hid (putsG (ordD o) ((l.take (j + 1)).filter (hasD o)) = acc.take a ++ x :: acc.drop a) := HPT.out.trans (HNEW.out fun y' hy' => by rw [HYE.out] at hy'; rw [← Option.some.inj hy', HOT.out]; exact h0)
              clear h0
              have HSD1 : Hid (CsD w3.heap.size bA (oA + a * 9) b (q + j * 9) y x w3.drew) := ⟨HYA1.out.drew, HXA1.out.drew, by have := HBB.out; omega, Nat.le_refl _⟩
              obtain ⟨wd1, hwd1⟩ : ∃ wd, w3.drew = wd := ⟨_, rfl⟩
              have HBD1 : Hid (Below wo.heap.size wo wd1) := by rw [← hwd1]; exact HBi.out.drew
              rw [hwd1] at HSD1
              go_wp2_with fail
              refine wp_region_held_drew (S := CsD w3.heap.size bA (oA + a * 9) b (q + j * 9) y x) (by kernel_rfl) (by rw [hwd1]; exact HSD1.out) (fun hHeld => ?_)
              rw [hwd1] at hHeld ⊢
              clear hwd1
              refine takeQ 0 49 ((.int .i64 a)) ?_
              simp only [Act.put, List.setIfInBounds_toArray, List.set_cons_zero, List.set_cons_succ]
              refine takeQ 1 50 ((.slice (some ⟨bA, oA, none⟩) acc.length c1)) ?_
              simp only [Act.put, List.setIfInBounds_toArray, List.set_cons_zero, List.set_cons_succ]
              refine takeQ 2 51 ((.int .i64 acc.length)) ?_
              simp only [Act.put, List.setIfInBounds_toArray, List.set_cons_zero, List.set_cons_succ]
              refine takeQ 3 52 ((.bool true)) ?_
              simp only [Act.put, List.setIfInBounds_toArray, List.set_cons_zero, List.set_cons_succ]
              refine takeQ 4 53 ((.bool true)) ?_
              simp only [Act.put, List.setIfInBounds_toArray, List.set_cons_zero, List.set_cons_succ]
              refine takeQ 5 54 ((.int .i64 o)) ?_
              simp only [Act.put, List.setIfInBounds_toArray, List.set_cons_zero, List.set_cons_succ]
              refine takeQ 6 55 ((.slice (some ⟨bA, oA, none⟩) acc.length c1)) ?_
              simp only [Act.put, List.setIfInBounds_toArray, List.set_cons_zero, List.set_cons_succ]
              refine takeQ 7 56 ((.int .i64 a)) ?_
              simp only [Act.put, List.setIfInBounds_toArray, List.set_cons_zero, List.set_cons_succ]
              refine takeQ 8 57 ((.pointer (some ⟨bA, oA + a * 9, none⟩))) ?_
              simp only [Act.put, List.setIfInBounds_toArray, List.set_cons_zero, List.set_cons_succ]
              refine takeQ 9 58 ((.agg #[.int .i64 y.e, .int .i64 y.a, .int .i64 y.k, .int .i64 y.m, .string y.s, .int .i64 y.t, .bool y.add, .int .i64 y.fr, .int .i64 y.til])) ?_ (hy := by (intro _w hSw; have k0 := hSw.1.c0; have k1 := hSw.1.c1; have k2 := hSw.1.c2; have k3 := hSw.1.c3; have k4 := hSw.1.c4; have k5 := hSw.1.c5; have k6 := hSw.1.c6; have k7 := hSw.1.c7; have k8 := hSw.1.c8; clear hSw; go_simp))
              simp only [Act.put, List.setIfInBounds_toArray, List.set_cons_zero, List.set_cons_succ]
              refine takeQ 10 59 ((.slice (some ⟨b, q, none⟩) l.length c)) ?_
              simp only [Act.put, List.setIfInBounds_toArray, List.set_cons_zero, List.set_cons_succ]
              refine takeQ 11 60 ((.int .i64 j)) ?_
              simp only [Act.put, List.setIfInBounds_toArray, List.set_cons_zero, List.set_cons_succ]
              refine takeQ 12 61 ((.pointer (some ⟨b, q + j * 9, none⟩))) ?_
              simp only [Act.put, List.setIfInBounds_toArray, List.set_cons_zero, List.set_cons_succ]
              refine takeQ 13 62 ((.agg #[.int .i64 x.e, .int .i64 x.a, .int .i64 x.k, .int .i64 x.m, .string x.s, .int .i64 x.t, .bool x.add, .int .i64 x.fr, .int .i64 x.til])) ?_ (hy := by (intro _w hSw; have k0 := hSw.2.1.c0; have k1 := hSw.2.1.c1; have k2 := hSw.2.1.c2; have k3 := hSw.2.1.c3; have k4 := hSw.2.1.c4; have k5 := hSw.2.1.c5; have k6 := hSw.2.1.c6; have k7 := hSw.2.1.c7; have k8 := hSw.2.1.c8; clear hSw; go_simp))
              simp only [Act.put, List.setIfInBounds_toArray, List.set_cons_zero, List.set_cons_succ]
              refine callV 14 rfl (by kernel_rfl) (by rfl) (fun K hK => ?_)
              go_simp
              refine (rCmp_wide o y x _ HYZ.out hxz).mono ?_
              rintro e wq ⟨rfl, hb3⟩
              have HB3_1 := Lib.hid (HBD1.out.trans (hb3.mono HBD1.out.size))
              rw [HO1.out]
              refine hK.out _ _ (CsD.next hHeld hb3) (fun hHeld2 => ?_)
              have HY1 := Lib.hid hHeld2.1
              have HX1 := Lib.hid hHeld2.2.1
              clear hK K hHeld hb3
              try simp only [Act.put, List.setIfInBounds_toArray, List.set_cons_zero, List.set_cons_succ]
              refine takeQ 15 64 ((.bool false)) ?_
              simp only [Act.put, List.setIfInBounds_toArray, List.set_cons_zero, List.set_cons_succ]
              refine takeQ 16 65 ((.bool false)) ?_
              simp only [Act.put, List.setIfInBounds_toArray, List.set_cons_zero, List.set_cons_succ]
              refine wpAnyH_done (by kernel_rfl) ?_ _
              have HSQ : Hid (SlD wq wq.heap.size (some ⟨bA, oA, none⟩) acc) := (HSA.out.next HB3_1.out (Nat.le_refl _)).more HB3_1.out.size
              have HPQ := HX1
              have HBQ : Hid (Below w.heap.size w wq) := HB.out.trans (HB3_1.out.mono hsz)
              have hbq : b < wq.heap.size := by have := HBB.out; have := HB3_1.out.size; omega
              have haa : a ≤ acc.length := by omega
              clear HY1 HX1 HYA1 HXA1 HSD1
              have hT := fun w => sliceD_to (some (⟨bA, oA, none⟩ : Addr)) acc.length c1 a (by omega) w
              have hF := fun w => sliceD_from (some (⟨bA, oA, none⟩ : Addr)) acc.length c1 a haa hl1 w
              have HL0 : Hid (OwnD wq wq.heap.size (.slice none 0 0) []) := World.ownsRow_nil _ _ _ _
              have HT1 : Hid ((acc.take a).length = a) := List.length_take_of_le haa
              have HT2 : Hid ((acc.drop a).length = acc.length - a) := List.length_drop
              have HT3 : Hid ((acc.take a ++ [x]).length = a + 1) := by show _ = _; rw [List.length_append, HT1.out]; rfl
              have HN1a : Hid ((some (⟨bA, oA, none⟩ : Addr)) = none → a = 0 ∧ c1 = 0) := fun h => by have := HN1.out h; omega
              have HN2a : Hid (cutD (some (⟨bA, oA, none⟩ : Addr)) c1 a = none → acc.length - a = 0 ∧ c1 - a = 0) := fun h => by have := HN1.out (cutD_none h); omega
              have HW1 := Lib.hid (HSQ.out.take a).news
              have HNL : Hid (((acc.take a ++ [x]) ++ acc.drop a).length ≤ j + 1) := by
                show _ ≤ _
                rw [List.length_append, HT3.out, HT2.out]; omega
              have tok1 : True := trivial
              have tok2 : True := trivial
              go_wp2_with (first | (at_builtin; have _t := tok1; refine wpList_append_any rfl _ _ 22 rfl wq.heap.size 44 i0 (.agg #[.int .i64 0, .int .i64 0, .int .i64 0, .int .i64 0, .string ⟨#[]⟩, .int .i64 0, .bool false, .int .i64 0, .int .i64 0]) 9 80 Tryz.underlying22 hi hz0 hz1 hz2 rfl (by decide) _ _ _ rfl HL0.out (some (⟨bA, oA, none⟩ : Addr)) a c1 ((acc.take a).flatMap cellsD) rfl (by rw [flatD_len, HT1.out]) HN1a.out HW1.out (cellsD_all _) (by rw [List.length_nil]; omega) (by rw [List.length_nil]; omega) (Nat.le_refl _) ?_; intro v1 w3 hown hgrow; have HV1 : Hid (OwnD w3 wq.heap.size v1 (acc.take a)) := ownD_of (a := []) hown; have HB3 := Lib.hid (below_ownD HL0.out hgrow (Nat.le_refl _)); have hpx := HPQ.out.next HB3.out hbq; have p0 := hpx.c0; have p1 := hpx.c1; have p2 := hpx.c2; have p3 := hpx.c3; have p4 := hpx.c4; have p5 := hpx.c5; have p6 := hpx.c6; have p7 := hpx.c7; have p8 := hpx.c8; have HV1a : Hid (OwnD (w3.alloc (.cells #[.int .i64 x.e, .int .i64 x.a, .int .i64 x.k, .int .i64 x.m, .string x.s, .int .i64 x.t, .bool x.add, .int .i64 x.fr, .int .i64 x.til] 44)) wq.heap.size v1 (acc.take a)) := World.ownsRow.alloc HV1.out _; have HB3a := Lib.hid (HB3.out.alloc HB3.out.size (.cells #[.int .i64 x.e, .int .i64 x.a, .int .i64 x.k, .int .i64 x.m, .string x.s, .int .i64 x.t, .bool x.add, .int .i64 x.fr, .int .i64 x.til] 44)); have HLC := Lib.hid (litD w3 x); clear hown hgrow hpx tok1) | (at_builtin; have _t := tok2; refine wpList_append_any rfl _ _ 22 rfl wq.heap.size 44 i0 (.agg #[.int .i64 0, .int .i64 0, .int .i64 0, .int .i64 0, .string ⟨#[]⟩, .int .i64 0, .bool false, .int .i64 0, .int .i64 0]) 9 80 Tryz.underlying22 hi hz0 hz1 hz2 rfl (by decide) _ _ _ rfl HV1a.out (some ⟨w3.heap.size, 0, none⟩) 1 1 ([x].flatMap cellsD) rfl rfl (fun h => by cases h) HLC.out (cellsD_all _) (by rw [HT1.out]; omega) (by rw [HT1.out]; omega) HB3a.out.size ?_; intro v2 w4 hown hgrow; have HV2 : Hid (OwnD w4 wq.heap.size v2 (acc.take a ++ [x])) := ownD_of hown; have HB4 := Lib.hid (HB3a.out.trans (below_ownD HV1a.out hgrow HB3a.out.size)); have HW2 := Lib.hid ((HSQ.out.drop a hl1).next HB4.out (Nat.le_refl _)).news; clear hown hgrow p0 p1 p2 p3 p4 p5 p6 p7 p8 tok2) | (at_builtin; refine wpList_append_any rfl _ _ 22 rfl wq.heap.size 44 i0 (.agg #[.int .i64 0, .int .i64 0, .int .i64 0, .int .i64 0, .string ⟨#[]⟩, .int .i64 0, .bool false, .int .i64 0, .int .i64 0]) 9 80 Tryz.underlying22 hi hz0 hz1 hz2 rfl (by decide) _ _ _ rfl HV2.out (cutD (some (⟨bA, oA, none⟩ : Addr)) c1 a) (acc.length - a) (c1 - a) ((acc.drop a).flatMap cellsD) rfl (by rw [flatD_len, HT2.out]) HN2a.out HW2.out (cellsD_all _) (by rw [HT3.out]; omega) (by rw [HT3.out]; omega) HB4.out.size ?_; intro v3 w5 hown hgrow; have HV3 : Hid (OwnD w5 wq.heap.size v3 ((acc.take a ++ [x]) ++ acc.drop a)) := ownD_of hown; have HB5 := Lib.hid (HB4.out.trans (below_ownD HV2.out hgrow HB4.out.size)); clear hown hgrow))
              go_roundg g
              case measure => omega
              case rel => exact ⟨j + 1, (acc.take a ++ [x]) ++ acc.drop a, HV3.out.low (by have := HBQ.out.size; omega), by go_num, by omega, HNL.out, (by show _ = _; rw [HNX.out, List.append_assoc, List.singleton_append]), HBQ.out.trans (HB5.out.mono HBQ.out.size), by have := HB5.out.size; have := HBQ.out.size; omega⟩
          · have ham : ¬ (a : Int) < (acc.length : Int) := by omega
            have haa : a ≤ acc.length := by omega
            have HNX : Hid (putsG (ordD o) ((l.take (j + 1)).filter (hasD o)) = acc.take a ++ x :: acc.drop a) := HPT.out.trans (HNEW.out fun y' hy' => absurd (List.getElem?_eq_some_iff.1 hy').1 hPc)
            obtain ⟨wd1, hwd1⟩ : ∃ wd, wi.drew = wd := ⟨_, rfl⟩
            have HBD1 : Hid (Below wo.heap.size wo wd1) := by rw [← hwd1]; exact HBi.out.drew
            go_wp2_with fail
            refine wp_region_held_drew (S := fun _ => True) (by kernel_rfl) trivial (fun hHeld => ?_)
            rw [hwd1]
            clear hwd1
            refine takeQ 0 30 ((.int .i64 a)) ?_
            simp only [Act.put, List.setIfInBounds_toArray, List.set_cons_zero, List.set_cons_succ]
            refine takeQ 1 31 ((.slice A1 acc.length c1)) ?_
            simp only [Act.put, List.setIfInBounds_toArray, List.set_cons_zero, List.set_cons_succ]
            refine takeQ 2 32 ((.int .i64 acc.length)) ?_
            simp only [Act.put, List.setIfInBounds_toArray, List.set_cons_zero, List.set_cons_succ]
            refine takeQ 3 33 ((.bool false)) ?_
            simp only [Act.put, List.setIfInBounds_toArray, List.set_cons_zero, List.set_cons_succ]
            refine takeQ 4 34 ((.bool false)) ?_
            simp only [Act.put, List.setIfInBounds_toArray, List.set_cons_zero, List.set_cons_succ]
            refine skipQ 5 35 ?_
            simp only [Act.put, List.setIfInBounds_toArray, List.set_cons_zero, List.set_cons_succ]
            refine skipQ 6 36 ?_
            simp only [Act.put, List.setIfInBounds_toArray, List.set_cons_zero, List.set_cons_succ]
            refine skipQ 7 37 ?_
            simp only [Act.put, List.setIfInBounds_toArray, List.set_cons_zero, List.set_cons_succ]
            refine skipQ 8 38 ?_
            simp only [Act.put, List.setIfInBounds_toArray, List.set_cons_zero, List.set_cons_succ]
            refine skipQ 9 39 ?_
            simp only [Act.put, List.setIfInBounds_toArray, List.set_cons_zero, List.set_cons_succ]
            refine skipQ 10 40 ?_
            simp only [Act.put, List.setIfInBounds_toArray, List.set_cons_zero, List.set_cons_succ]
            refine skipQ 11 41 ?_
            simp only [Act.put, List.setIfInBounds_toArray, List.set_cons_zero, List.set_cons_succ]
            refine skipQ 12 42 ?_
            simp only [Act.put, List.setIfInBounds_toArray, List.set_cons_zero, List.set_cons_succ]
            refine skipQ 13 43 ?_
            simp only [Act.put, List.setIfInBounds_toArray, List.set_cons_zero, List.set_cons_succ]
            refine skipQ 14 44 ?_
            simp only [Act.put, List.setIfInBounds_toArray, List.set_cons_zero, List.set_cons_succ]
            refine skipQ 15 45 ?_
            simp only [Act.put, List.setIfInBounds_toArray, List.set_cons_zero, List.set_cons_succ]
            refine takeQ 16 46 ((.bool false)) ?_
            simp only [Act.put, List.setIfInBounds_toArray, List.set_cons_zero, List.set_cons_succ]
            refine wpAnyH_done (by kernel_rfl) ?_ _
            obtain ⟨wq, hwq⟩ : ∃ wd, wd1.drew = wd := ⟨_, rfl⟩
            have HBD2 : Hid (Below wo.heap.size wo wq) := by rw [← hwq]; exact HBD1.out.drew
            go_wp2_with fail
            refine wp_region_held_drew (S := fun _ => True) (by kernel_rfl) trivial (fun hHeld => ?_)
            rw [hwq]
            clear hwq
            refine takeQ 0 49 ((.int .i64 a)) ?_
            simp only [Act.put, List.setIfInBounds_toArray, List.set_cons_zero, List.set_cons_succ]
            refine takeQ 1 50 ((.slice A1 acc.length c1)) ?_
            simp only [Act.put, List.setIfInBounds_toArray, List.set_cons_zero, List.set_cons_succ]
            refine takeQ 2 51 ((.int .i64 acc.length)) ?_
            simp only [Act.put, List.setIfInBounds_toArray, List.set_cons_zero, List.set_cons_succ]
            refine takeQ 3 52 ((.bool false)) ?_
            simp only [Act.put, List.setIfInBounds_toArray, List.set_cons_zero, List.set_cons_succ]
            refine takeQ 4 53 ((.bool false)) ?_
            simp only [Act.put, List.setIfInBounds_toArray, List.set_cons_zero, List.set_cons_succ]
            refine skipQ 5 54 ?_
            simp only [Act.put, List.setIfInBounds_toArray, List.set_cons_zero, List.set_cons_succ]
            refine skipQ 6 55 ?_
            simp only [Act.put, List.setIfInBounds_toArray, List.set_cons_zero, List.set_cons_succ]
            refine skipQ 7 56 ?_
            simp only [Act.put, List.setIfInBounds_toArray, List.set_cons_zero, List.set_cons_succ]
            refine skipQ 8 57 ?_
            simp only [Act.put, List.setIfInBounds_toArray, List.set_cons_zero, List.set_cons_succ]
            refine skipQ 9 58 ?_
            simp only [Act.put, List.setIfInBounds_toArray, List.set_cons_zero, List.set_cons_succ]
            refine skipQ 10 59 ?_
            simp only [Act.put, List.setIfInBounds_toArray, List.set_cons_zero, List.set_cons_succ]
            refine skipQ 11 60 ?_
            simp only [Act.put, List.setIfInBounds_toArray, List.set_cons_zero, List.set_cons_succ]
            refine skipQ 12 61 ?_
            simp only [Act.put, List.setIfInBounds_toArray, List.set_cons_zero, List.set_cons_succ]
            refine skipQ 13 62 ?_
            simp only [Act.put, List.setIfInBounds_toArray, List.set_cons_zero, List.set_cons_succ]
            refine skipQ 14 63 ?_
            simp only [Act.put, List.setIfInBounds_toArray, List.set_cons_zero, List.set_cons_succ]
            refine skipQ 15 64 ?_
            simp only [Act.put, List.setIfInBounds_toArray, List.set_cons_zero, List.set_cons_succ]
            refine takeQ 16 65 ((.bool false)) ?_
            simp only [Act.put, List.setIfInBounds_toArray, List.set_cons_zero, List.set_cons_succ]
            refine wpAnyH_done (by kernel_rfl) ?_ _
            have HSQ : Hid (SlD wq wq.heap.size A1 acc) := (HSA.out.next HBD2.out (Nat.le_refl _)).more HBD2.out.size
            have HPQ := Lib.hid (HP.out.next HBD2.out (by omega))
            have HBQ : Hid (Below w.heap.size w wq) := HB.out.trans (HBD2.out.mono hsz)
            have hbq : b < wq.heap.size := by have := HBD2.out.size; omega
            have hT := fun w => sliceD_to A1 acc.length c1 a (by omega) w
            have hF := fun w => sliceD_from A1 acc.length c1 a haa hl1 w
            have HL0 : Hid (OwnD wq wq.heap.size (.slice none 0 0) []) := World.ownsRow_nil _ _ _ _
            have HT1 : Hid ((acc.take a).length = a) := List.length_take_of_le haa
            have HT2 : Hid ((acc.drop a).length = acc.length - a) := List.length_drop
            have HT3 : Hid ((acc.take a ++ [x]).length = a + 1) := by show _ = _; rw [List.length_append, HT1.out]; rfl
            have HN1a : Hid (A1 = none → a = 0 ∧ c1 = 0) := fun h => by have := HN1.out h; omega
            have HN2a : Hid (cutD A1 c1 a = none → acc.length - a = 0 ∧ c1 - a = 0) := fun h => by have := HN1.out (cutD_none h); omega
            have HW1 := Lib.hid (HSQ.out.take a).news
            have HNL : Hid (((acc.take a ++ [x]) ++ acc.drop a).length ≤ j + 1) := by
              show _ ≤ _
              rw [List.length_append, HT3.out, HT2.out]; omega
            have tok1 : True := trivial
            have tok2 : True := trivial
            go_wp2_with (first | (at_builtin; have _t := tok1; refine wpList_append_any rfl _ _ 22 rfl wq.heap.size 44 i0 (.agg #[.int .i64 0, .int .i64 0, .int .i64 0, .int .i64 0, .string ⟨#[]⟩, .int .i64 0, .bool false, .int .i64 0, .int .i64 0]) 9 80 Tryz.underlying22 hi hz0 hz1 hz2 rfl (by decide) _ _ _ rfl HL0.out A1 a c1 ((acc.take a).flatMap cellsD) rfl (by rw [flatD_len, HT1.out]) HN1a.out HW1.out (cellsD_all _) (by rw [List.length_nil]; omega) (by rw [List.length_nil]; omega) (Nat.le_refl _) ?_; intro v1 w3 hown hgrow; have HV1 : Hid (OwnD w3 wq.heap.size v1 (acc.take a)) := ownD_of (a := []) hown; have HB3 := Lib.hid (below_ownD HL0.out hgrow (Nat.le_refl _)); have hpx := HPQ.out.next HB3.out hbq; have p0 := hpx.c0; have p1 := hpx.c1; have p2 := hpx.c2; have p3 := hpx.c3; have p4 := hpx.c4; have p5 := hpx.c5; have p6 := hpx.c6; have p7 := hpx.c7; have p8 := hpx.c8; have HV1a : Hid (OwnD (w3.alloc (.cells #[.int .i64 x.e, .int .i64 x.a, .int .i64 x.k, .int .i64 x.m, .string x.s, .int .i64 x.t, .bool x.add, .int .i64 x.fr, .int .i64 x.til] 44)) wq.heap.size v1 (acc.take a)) := World.ownsRow.alloc HV1.out _; have HB3a := Lib.hid (HB3.out.alloc HB3.out.size (.cells #[.int .i64 x.e, .int .i64 x.a, .int .i64 x.k, .int .i64 x.m, .string x.s, .int .i64 x.t, .bool x.add, .int .i64 x.fr, .int .i64 x.til] 44)); have HLC := Lib.hid (litD w3 x); clear hown hgrow hpx tok1) | (at_builtin; have _t := tok2; refine wpList_append_any rfl _ _ 22 rfl wq.heap.size 44 i0 (.agg #[.int .i64 0, .int .i64 0, .int .i64 0, .int .i64 0, .string ⟨#[]⟩, .int .i64 0, .bool false, .int .i64 0, .int .i64 0]) 9 80 Tryz.underlying22 hi hz0 hz1 hz2 rfl (by decide) _ _ _ rfl HV1a.out (some ⟨w3.heap.size, 0, none⟩) 1 1 ([x].flatMap cellsD) rfl rfl (fun h => by cases h) HLC.out (cellsD_all _) (by rw [HT1.out]; omega) (by rw [HT1.out]; omega) HB3a.out.size ?_; intro v2 w4 hown hgrow; have HV2 : Hid (OwnD w4 wq.heap.size v2 (acc.take a ++ [x])) := ownD_of hown; have HB4 := Lib.hid (HB3a.out.trans (below_ownD HV1a.out hgrow HB3a.out.size)); have HW2 := Lib.hid ((HSQ.out.drop a hl1).next HB4.out (Nat.le_refl _)).news; clear hown hgrow p0 p1 p2 p3 p4 p5 p6 p7 p8 tok2) | (at_builtin; refine wpList_append_any rfl _ _ 22 rfl wq.heap.size 44 i0 (.agg #[.int .i64 0, .int .i64 0, .int .i64 0, .int .i64 0, .string ⟨#[]⟩, .int .i64 0, .bool false, .int .i64 0, .int .i64 0]) 9 80 Tryz.underlying22 hi hz0 hz1 hz2 rfl (by decide) _ _ _ rfl HV2.out (cutD A1 c1 a) (acc.length - a) (c1 - a) ((acc.drop a).flatMap cellsD) rfl (by rw [flatD_len, HT2.out]) HN2a.out HW2.out (cellsD_all _) (by rw [HT3.out]; omega) (by rw [HT3.out]; omega) HB4.out.size ?_; intro v3 w5 hown hgrow; have HV3 : Hid (OwnD w5 wq.heap.size v3 ((acc.take a ++ [x]) ++ acc.drop a)) := ownD_of hown; have HB5 := Lib.hid (HB4.out.trans (below_ownD HV2.out hgrow HB4.out.size)); clear hown hgrow))
            go_roundg g
            case measure => omega
            case rel => exact ⟨j + 1, (acc.take a ++ [x]) ++ acc.drop a, HV3.out.low (by have := HBQ.out.size; omega), by go_num, by omega, HNL.out, (by show _ = _; rw [HNX.out, List.append_assoc, List.singleton_append]), HBQ.out.trans (HB5.out.mono HBQ.out.size), by have := HB5.out.size; have := HBQ.out.size; omega⟩
end Go.Proofs.YthdjlaombbeagaaGreat
