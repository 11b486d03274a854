import Derived.Test.YtefekkcmoambhaaJORefC
import Derived.Test.YtefekkcmoambhaaJDPreW
import Derived.Test.YtefekkcmoambhaaJOBytes
/-
  CONTRACT: Compare of two lists of parts (the document's), whatever the size of their texts.
-/
namespace Go.Proofs.Ytefekkcmoambhaa
open Go.RowKit Go.Shelf

set_option maxRecDepth 100000 in
set_option maxHeartbeats 4000000 in
theorem refCmp_wide (A A' : Option Addr) (c c' : Nat) (a b : List PartP) (w : World) (B : Nat) (hs : SlP w B A a) (hs' : SlP w B A' b) (hB : B ≤ w.heap.size) (_hl : a.length ≤ 50000) (_hl' : b.length ≤ 50000) (hz : ∀ p ∈ a, p.s.size ≤ maxLen) (hz' : ∀ p ∈ b, p.s.size ≤ maxLen) :
    Calls Try.prog 83 #[.slice A a.length c, .slice A' b.length c'] w fun e w' => e = .returned (.int .i64 (ordK a b)) ∧ Below w.heap.size w w' := by
  have HZ := Lib.hid hz
  have HZ' := Lib.hid hz'
  have hmx : 50000 ≤ maxLen := by decide
  clear hz hz'
  go_enter Try.func83, Try.ntmps83
  go_wp2
  go_loopg [5, 6] a.length (fun g x _ wr => ∃ j : Nat, x = .int .i64 j ∧ j + g = a.length ∧ j ≤ b.length ∧ Hid (ordPF a b j = ordK a b) ∧ Hid (Below w.heap.size w wr) ∧ w.heap.size ≤ wr.heap.size)
  case atStart => exact ⟨0, rfl, by omega, by omega, rfl, Below.refl _ _, Nat.le_refl _⟩
  case round =>
    obtain ⟨j, rfl, hj, hjb, HJ, HB, hsz⟩ := hrel
    by_cases h1 : j < a.length ∧ j < b.length
    · obtain ⟨h1, h2⟩ := h1
      have hi1 : (j : Int) < (a.length : Int) := by omega
      have hi2 : (j : Int) < (b.length : Int) := by omega
      obtain ⟨p0, o, rfl, hlt, hp⟩ := (hs.next HB.out hB).at_ h1
      obtain ⟨p0', o', rfl, hlt', hp'⟩ := (hs'.next HB.out hB).at_ h2
      have hst := ordPF_step h1 h2
      have hps := HZ.out _ (List.getElem_mem h1)
      have hps' := HZ'.out _ (List.getElem_mem h2)
      obtain ⟨p, hpe⟩ : ∃ p, a[j] = p := ⟨_, rfl⟩
      obtain ⟨q, hqe⟩ : ∃ q, b[j] = q := ⟨_, rfl⟩
      rw [hpe] at hp hst hps
      rw [hqe] at hp' hst hps'
      have HST := Lib.hid hst
      have a0 := hp.c0
      have a1 := hp.c1
      have a2 := hp.c2
      have a3 := hp.c3
      have a4 := hp.c4
      have b1 := hp'.c1
      have b2 := hp'.c2
      have b3 := hp'.c3
      have b4 := hp'.c4
      clear hp hp' hst hpe hqe
      cases hv : p.v
      · rw [hv] at a0
        have HO := Lib.hid (ordP_num (q := q) hv)
        clear hv
        by_cases h3 : p.n < q.n
        · have HI : Hid (ordPF a b j = -1) := by
            show _ = _
            rw [HST.out, HO.out]; unfold ordI; rw [if_pos h3]; rfl
          go_wp2
          go_quiet (fail)
          go_wp2
          go_ret
          exact ⟨ret_i64 (by rw [← HJ.out, HI.out]), below_dn HB.out _⟩
        · by_cases h4 : q.n < p.n
          · have HI : Hid (ordPF a b j = 1) := by
              show _ = _
              rw [HST.out, HO.out]; unfold ordI; rw [if_neg h3, if_pos h4]; rfl
            go_wp2
            go_quiet (fail)
            go_wp2
            go_quiet (fail)
            go_wp2
            go_ret
            exact ⟨ret_i64 (by rw [← HJ.out, HI.out]), by first | exact below_dn HB.out _ | exact below_dn (below_dn HB.out _) _⟩
          · have HI : Hid (ordPF a b j = ordPF a b (j + 1)) := by
              show _ = _
              rw [HST.out, HO.out]; unfold ordI; rw [if_neg h3, if_neg h4]; rfl
            go_wp2
            go_quiet (fail)
            go_wp2
            go_quiet (fail)
            go_wp2
            go_roundg (gk - 1)
            case measure => omega
            case rel => exact ⟨j + 1, by go_num, by omega, by omega, by rw [← HJ.out, HI.out]; rfl, (by first | exact below_dn HB.out _ | exact below_dn (below_dn HB.out _) _), hsz⟩
      · rw [hv] at a0
        have HO := Lib.hid (ordP_val (q := q) hv)
        clear hv
        go_wp2_with fail
        refine wp_region_held_drew (S := fun W => W.cell? ⟨p0, o + j * 5 + 2, none⟩ = some (.int .i64 p.k) ∧ W.cell? ⟨p0, o + j * 5 + 2 + 1, none⟩ = some (.int .i64 p.m) ∧ W.cell? ⟨p0, o + j * 5 + 2 + 2, none⟩ = some (.string p.s) ∧
            W.cell? ⟨p0', o' + j * 5 + 2, none⟩ = some (.int .i64 q.k) ∧ W.cell? ⟨p0', o' + j * 5 + 2 + 1, none⟩ = some (.int .i64 q.m) ∧ W.cell? ⟨p0', o' + j * 5 + 2 + 2, none⟩ = some (.string q.s) ∧
            Below w.heap.size w W ∧ w.heap.size ≤ W.heap.size) (by kernel_rfl) ⟨a2, a3, a4, b2, b3, b4, below_dr HB.out, hsz⟩ (fun hHeld => ?_)
        clear a0 a1 a2 a3 a4 b1 b2 b3 b4
        refine takeV 0 (some 24) ((.slice (some ⟨p0, o, none⟩) a.length c)) rfl rfl (by kernel_rfl) (by kernel_rfl) (by kernel_rfl) (fun _ _ _ h => h) (by rfl) (by (intro _w _hSw; (try dsimp only at _hSw); go_simp)) (by assumption) ?_
        simp only [Act.put, List.setIfInBounds_toArray, List.set_cons_zero, List.set_cons_succ]
        refine takeV 1 (some 25) ((.int .i64 j)) rfl rfl (by kernel_rfl) (by kernel_rfl) (by kernel_rfl) (fun _ _ _ h => h) (by rfl) (by (intro _w _hSw; (try dsimp only at _hSw); go_simp)) (by assumption) ?_
        simp only [Act.put, List.setIfInBounds_toArray, List.set_cons_zero, List.set_cons_succ]
        refine takeV 2 (some 26) ((.pointer (some ⟨p0, o + j * 5, none⟩))) rfl rfl (by kernel_rfl) (by kernel_rfl) (by kernel_rfl) (fun _ _ _ h => h) (by rfl) (by (intro _w _hSw; (try dsimp only at _hSw); go_simp)) (by assumption) ?_
        simp only [Act.put, List.setIfInBounds_toArray, List.set_cons_zero, List.set_cons_succ]
        refine takeV 3 (some 27) ((.pointer (some ⟨p0, o + j * 5 + 2, none⟩))) rfl rfl (by kernel_rfl) (by kernel_rfl) (by kernel_rfl) (fun _ _ _ h => h) (by rfl) (by (intro _w _hSw; (try dsimp only at _hSw); go_simp)) (by assumption) ?_
        simp only [Act.put, List.setIfInBounds_toArray, List.set_cons_zero, List.set_cons_succ]
        refine takeV 4 (some 28) ((.agg #[.int .i64 p.k, .int .i64 p.m, .string p.s])) rfl rfl (by kernel_rfl) (by kernel_rfl) (by kernel_rfl) (fun _ _ _ h => h) (by rfl) (by (intro _w _hSw; (try dsimp only at _hSw); go_simp)) (by assumption) ?_
        simp only [Act.put, List.setIfInBounds_toArray, List.set_cons_zero, List.set_cons_succ]
        refine takeV 5 (some 29) ((.slice (some ⟨p0', o', none⟩) b.length c')) rfl rfl (by kernel_rfl) (by kernel_rfl) (by kernel_rfl) (fun _ _ _ h => h) (by rfl) (by (intro _w _hSw; (try dsimp only at _hSw); go_simp)) (by assumption) ?_
        simp only [Act.put, List.setIfInBounds_toArray, List.set_cons_zero, List.set_cons_succ]
        refine takeV 6 (some 30) ((.int .i64 j)) rfl rfl (by kernel_rfl) (by kernel_rfl) (by kernel_rfl) (fun _ _ _ h => h) (by rfl) (by (intro _w _hSw; (try dsimp only at _hSw); go_simp)) (by assumption) ?_
        simp only [Act.put, List.setIfInBounds_toArray, List.set_cons_zero, List.set_cons_succ]
        refine takeV 7 (some 31) ((.pointer (some ⟨p0', o' + j * 5, none⟩))) rfl rfl (by kernel_rfl) (by kernel_rfl) (by kernel_rfl) (fun _ _ _ h => h) (by rfl) (by (intro _w _hSw; (try dsimp only at _hSw); go_simp)) (by assumption) ?_
        simp only [Act.put, List.setIfInBounds_toArray, List.set_cons_zero, List.set_cons_succ]
        refine takeV 8 (some 32) ((.pointer (some ⟨p0', o' + j * 5 + 2, none⟩))) rfl rfl (by kernel_rfl) (by kernel_rfl) (by kernel_rfl) (fun _ _ _ h => h) (by rfl) (by (intro _w _hSw; (try dsimp only at _hSw); go_simp)) (by assumption) ?_
        simp only [Act.put, List.setIfInBounds_toArray, List.set_cons_zero, List.set_cons_succ]
        refine takeV 9 (some 33) ((.agg #[.int .i64 q.k, .int .i64 q.m, .string q.s])) rfl rfl (by kernel_rfl) (by kernel_rfl) (by kernel_rfl) (fun _ _ _ h => h) (by rfl) (by (intro _w _hSw; (try dsimp only at _hSw); go_simp)) (by assumption) ?_
        simp only [Act.put, List.setIfInBounds_toArray, List.set_cons_zero, List.set_cons_succ]
        refine callV 10 rfl (by kernel_rfl) (by rfl) (fun K hK => ?_)
        go_simp
        go_at_call 51
        refine (refCompare_any _ _ _ _ _ _ _ (by omega) (by omega)).mono ?_
        rintro e w3 ⟨rfl, hb3⟩
        have g3 := s6n (B := w.heap.size) (by omega) (by omega) hHeld hb3
        refine hK.out _ _ g3 (fun hHeld3 => ?_)
        clear hK g3 K hHeld hb3
        try simp only [Act.put, List.setIfInBounds_toArray, List.set_cons_zero, List.set_cons_succ]
        refine takeV 11 (some 6) ((.int .i64 (ordV p.k p.m p.s q.k q.m q.s))) rfl rfl (by kernel_rfl) (by kernel_rfl) (by kernel_rfl) (fun _ _ _ h => h) (by rfl) (by (intro _w _hSw; (try dsimp only at _hSw); go_simp)) (by assumption) ?_
        simp only [Act.put, List.setIfInBounds_toArray, List.set_cons_zero, List.set_cons_succ]
        refine wpAnyH_done (by kernel_rfl) ?_ _
        obtain ⟨O, hO⟩ : ∃ O, ordV p.k p.m p.s q.k q.m q.s = O := ⟨_, rfl⟩
        rw [hO]
        have HOO := Lib.hid hO
        have HB3 : Hid (Below w.heap.size w w3) := hHeld3.2.2.2.2.2.2.1
        have hsz3 : w.heap.size ≤ w3.heap.size := hHeld3.2.2.2.2.2.2.2
        clear hO hHeld3
        by_cases h0 : O = 0
        · have HI : Hid (ordPF a b j = ordPF a b (j + 1)) := by
            show _ = _
            rw [HST.out, HO.out, HOO.out, if_pos h0]
          subst h0
          go_wp2
          go_roundg (gk - 1)
          case measure => omega
          case rel => exact ⟨j + 1, by go_num, by omega, by omega, by rw [← HJ.out, HI.out]; rfl, HB3.out, hsz3⟩
        · have HI : Hid (ordPF a b j = O) := by
            show _ = _
            rw [HST.out, HO.out, HOO.out, if_neg h0]
          have hb0 : (O != 0) = true := by simpa using h0
          clear h0
          go_wp2
          go_ret
          exact ⟨ret_i64 (by rw [← HJ.out, HI.out]), HB3.out⟩
    · have HE := Lib.hid (ordPF_end (a := a) (b := b) (j := j) (by omega))
      by_cases h2 : j < a.length
      · have hi1 : (j : Int) < (a.length : Int) := by omega
        have hi2 : ¬ (j : Int) < (b.length : Int) := by omega
        go_wp2
        go_ret
        exact ⟨ret_i64 (by rw [← HJ.out, HE.out]), HB.out⟩
      · have hi1 : ¬ (j : Int) < (a.length : Int) := by omega
        go_wp2
        go_ret
        exact ⟨ret_i64 (by rw [← HJ.out, HE.out]), HB.out⟩

end Go.Proofs.Ytefekkcmoambhaa

/-
  CONTRACTS of the document's own answer over datoms: Prefix, Begins.
-/
namespace Go.Proofs.Ytefekkcmoambhaa
open Go.RowKit Go.Shelf

/-- the end of the walk over the parts: all are of their kinds -/
theorem rpre_end {w wr w' : World} {o : Int} {l : List PartP} {e : Ending} (ho : isO o = true) (hl : l.length ≤ 4) (hf : ∀ i (h : i < l.length), l[i].v = decide (i = plV o)) (hb : Below w.heap.size w wr) (h : KeyEnd wr l e w') : PreEnd w o l e w' := by
  have hp := pre_kinds hl hf
  rcases h with ⟨hm, ⟨v, rfl, ho3⟩, hb3⟩ | ⟨hm, rfl, hb3⟩
  · exact ⟨.inl ⟨by rw [preE_yes ho]; exact pre_yes hp hm, v, rfl, ho3.from_ hb.size⟩, hb.trans (hb3.mono hb.size)⟩
  · exact ⟨.inr ⟨10, by rw [preE_yes ho]; exact pre_kind hp hm, by decide, rfl⟩, hb.trans (hb3.mono hb.size)⟩
theorem keyEnd_form {W w' : World} {l : List PartP} {e : Ending} (h : KeyEnd W l e w') : ∃ v n, e = .returned (.tuple #[v, .int .i64 n]) := by
  rcases h with ⟨_, ⟨v, rfl, _⟩, _⟩ | ⟨_, rfl, _⟩
  · exact ⟨v, 0, rfl⟩
  · exact ⟨_, 10, rfl⟩


set_option maxRecDepth 100000 in
set_option maxHeartbeats 1000000 in
theorem rPrefix_1 (A : Option Addr) (c : Nat) (l : List PartP) (w : World) (hs : SlP w w.heap.size A l) (hl4 : l.length ≤ 4) (hz : ∀ p ∈ l, p.s.size ≤ maxLen) (hok : ∀ p ∈ l, partOk p) :
    Calls Try.prog 37 #[.int .i64 1, .slice A l.length c] w (PreEnd w 1 l) := by
  have HS := Lib.hid hs
  have HOK := Lib.hid hok
  have HZ := Lib.hid hz
  clear hs hok hz
  have hi4 : decide ((4 : Int) < (l.length : Int)) = false := decide_eq_false (by omega)
  go_enter Try.func37, Try.ntmps37
  go_wp2_with fail
  refine (shape_1 _).mono ?_
  rintro e w1 ⟨rfl, rfl⟩
  go_wp2
  go_loopg [7] l.length (fun g y wr => ∃ j : Nat, y = .int .i64 j ∧ j + g = l.length ∧ Hid (∀ i (h : i < l.length), i < j → l[i].v = decide (i = 2)) ∧ Hid (Below w.heap.size w wr) ∧ w.heap.size ≤ wr.heap.size)
  case atStart => exact ⟨0, rfl, by omega, fun i _ h => absurd h (Nat.not_lt_zero _), Below.refl _ _, Nat.le_refl _⟩
  case round =>
    obtain ⟨j, rfl, hj, HK, HB, hsz⟩ := hrel
    cases gk with
    | zero =>
      have hjz : ¬ ((j : Int) < (l.length : Int)) := by omega
      have HF : Hid (∀ i (h : i < l.length), l[i].v = decide (i = 2)) := fun i h => HK.out i h (by omega)
      go_wp2_with fail
      refine (refKey_small A c l _ ((HS.out.next HB.out (Nat.le_refl _)).more HB.out.size) hl4 HZ.out HOK.out).mono ?_
      intro e w3 he
      have HE := Lib.hid (rpre_end (o := 1) rfl hl4 HF.out HB.out he)
      obtain ⟨v, n, rfl⟩ := keyEnd_form he
      clear he
      go_wp2
      go_ret2
      exact HE.out
    | succ g =>
      have hjz : (j : Int) < (l.length : Int) := by omega
      have hjn : j < l.length := by omega
      have HBAD := Lib.hid (fun h => pre_bad (pv := 2) hjn h)
      have HST : Hid (l[j].v = decide (j = 2) → ∀ i (h : i < l.length), i < j + 1 → l[i].v = decide (i = 2)) := fun e i h hi => by
        by_cases hij : i = j
        · subst hij; exact e
        · exact HK.out i h (by omega)
      obtain ⟨b, q, rfl, hblt, hp⟩ := (HS.out.next HB.out (Nat.le_refl _)).at_ hjn
      obtain ⟨p, hpe⟩ : ∃ p, l[j] = p := ⟨_, rfl⟩
      rw [hpe] at hp HBAD HST
      have h0 := hp.c0
      clear hp hpe
      rcases (by omega : j = 0 ∨ j = 1 ∨ j = 2 ∨ j = 3) with rfl | rfl | rfl | rfl
      · cases hv : p.v
        · rw [hv] at h0
          simp only [Nat.zero_mul, Nat.add_zero] at h0
          have HS1 := Lib.hid (HST.out (by rw [hv]; decide))
          clear hv
          go_wp2
          go_quiet (fail)
          go_wp2
          go_roundg g
          case measure => omega
          case rel => exact ⟨0 + 1, by go_num, by omega, HS1.out, below_dn HB.out _, hsz⟩
        · rw [hv] at h0
          simp only [Nat.zero_mul, Nat.add_zero] at h0
          have HE : Hid (preN 2 l = 2) := HBAD.out (by rw [hv]; decide)
          clear hv
          go_wp2
          go_quiet (fail)
          go_wp2
          go_ret2
          exact ⟨.inr ⟨2, (preE_yes (o := 1) rfl).trans HE.out, by decide, rfl⟩, below_dn HB.out _⟩
      · cases hv : p.v
        · rw [hv] at h0
          have HS1 := Lib.hid (HST.out (by rw [hv]; decide))
          clear hv
          go_wp2
          go_quiet (fail)
          go_wp2
          go_roundg g
          case measure => omega
          case rel => exact ⟨1 + 1, by go_num, by omega, HS1.out, below_dn HB.out _, hsz⟩
        · rw [hv] at h0
          have HE : Hid (preN 2 l = 2) := HBAD.out (by rw [hv]; decide)
          clear hv
          go_wp2
          go_quiet (fail)
          go_wp2
          go_ret2
          exact ⟨.inr ⟨2, (preE_yes (o := 1) rfl).trans HE.out, by decide, rfl⟩, below_dn HB.out _⟩
      · cases hv : p.v
        · rw [hv] at h0
          have HE : Hid (preN 2 l = 2) := HBAD.out (by rw [hv]; decide)
          clear hv
          go_wp2
          go_quiet (fail)
          go_wp2
          go_ret2
          exact ⟨.inr ⟨2, (preE_yes (o := 1) rfl).trans HE.out, by decide, rfl⟩, below_dn HB.out _⟩
        · rw [hv] at h0
          have HS1 := Lib.hid (HST.out (by rw [hv]; decide))
          clear hv
          go_wp2
          go_quiet (fail)
          go_wp2
          go_roundg g
          case measure => omega
          case rel => exact ⟨2 + 1, by go_num, by omega, HS1.out, below_dn HB.out _, hsz⟩
      · cases hv : p.v
        · rw [hv] at h0
          have HS1 := Lib.hid (HST.out (by rw [hv]; decide))
          clear hv
          go_wp2
          go_quiet (fail)
          go_wp2
          go_roundg g
          case measure => omega
          case rel => exact ⟨3 + 1, by go_num, by omega, HS1.out, below_dn HB.out _, hsz⟩
        · rw [hv] at h0
          have HE : Hid (preN 2 l = 2) := HBAD.out (by rw [hv]; decide)
          clear hv
          go_wp2
          go_quiet (fail)
          go_wp2
          go_ret2
          exact ⟨.inr ⟨2, (preE_yes (o := 1) rfl).trans HE.out, by decide, rfl⟩, below_dn HB.out _⟩


set_option maxRecDepth 100000 in
set_option maxHeartbeats 1000000 in
theorem rPrefix_2 (A : Option Addr) (c : Nat) (l : List PartP) (w : World) (hs : SlP w w.heap.size A l) (hl4 : l.length ≤ 4) (hz : ∀ p ∈ l, p.s.size ≤ maxLen) (hok : ∀ p ∈ l, partOk p) :
    Calls Try.prog 37 #[.int .i64 2, .slice A l.length c] w (PreEnd w 2 l) := by
  have HS := Lib.hid hs
  have HOK := Lib.hid hok
  have HZ := Lib.hid hz
  clear hs hok hz
  have hi4 : decide ((4 : Int) < (l.length : Int)) = false := decide_eq_false (by omega)
  go_enter Try.func37, Try.ntmps37
  go_wp2_with fail
  refine (shape_2 _).mono ?_
  rintro e w1 ⟨rfl, rfl⟩
  go_wp2
  go_loopg [7] l.length (fun g y wr => ∃ j : Nat, y = .int .i64 j ∧ j + g = l.length ∧ Hid (∀ i (h : i < l.length), i < j → l[i].v = decide (i = 2)) ∧ Hid (Below w.heap.size w wr) ∧ w.heap.size ≤ wr.heap.size)
  case atStart => exact ⟨0, rfl, by omega, fun i _ h => absurd h (Nat.not_lt_zero _), Below.refl _ _, Nat.le_refl _⟩
  case round =>
    obtain ⟨j, rfl, hj, HK, HB, hsz⟩ := hrel
    cases gk with
    | zero =>
      have hjz : ¬ ((j : Int) < (l.length : Int)) := by omega
      have HF : Hid (∀ i (h : i < l.length), l[i].v = decide (i = 2)) := fun i h => HK.out i h (by omega)
      go_wp2_with fail
      refine (refKey_small A c l _ ((HS.out.next HB.out (Nat.le_refl _)).more HB.out.size) hl4 HZ.out HOK.out).mono ?_
      intro e w3 he
      have HE := Lib.hid (rpre_end (o := 2) rfl hl4 HF.out HB.out he)
      obtain ⟨v, n, rfl⟩ := keyEnd_form he
      clear he
      go_wp2
      go_ret2
      exact HE.out
    | succ g =>
      have hjz : (j : Int) < (l.length : Int) := by omega
      have hjn : j < l.length := by omega
      have HBAD := Lib.hid (fun h => pre_bad (pv := 2) hjn h)
      have HST : Hid (l[j].v = decide (j = 2) → ∀ i (h : i < l.length), i < j + 1 → l[i].v = decide (i = 2)) := fun e i h hi => by
        by_cases hij : i = j
        · subst hij; exact e
        · exact HK.out i h (by omega)
      obtain ⟨b, q, rfl, hblt, hp⟩ := (HS.out.next HB.out (Nat.le_refl _)).at_ hjn
      obtain ⟨p, hpe⟩ : ∃ p, l[j] = p := ⟨_, rfl⟩
      rw [hpe] at hp HBAD HST
      have h0 := hp.c0
      clear hp hpe
      rcases (by omega : j = 0 ∨ j = 1 ∨ j = 2 ∨ j = 3) with rfl | rfl | rfl | rfl
      · cases hv : p.v
        · rw [hv] at h0
          simp only [Nat.zero_mul, Nat.add_zero] at h0
          have HS1 := Lib.hid (HST.out (by rw [hv]; decide))
          clear hv
          go_wp2
          go_quiet (fail)
          go_wp2
          go_roundg g
          case measure => omega
          case rel => exact ⟨0 + 1, by go_num, by omega, HS1.out, below_dn HB.out _, hsz⟩
        · rw [hv] at h0
          simp only [Nat.zero_mul, Nat.add_zero] at h0
          have HE : Hid (preN 2 l = 2) := HBAD.out (by rw [hv]; decide)
          clear hv
          go_wp2
          go_quiet (fail)
          go_wp2
          go_ret2
          exact ⟨.inr ⟨2, (preE_yes (o := 2) rfl).trans HE.out, by decide, rfl⟩, below_dn HB.out _⟩
      · cases hv : p.v
        · rw [hv] at h0
          have HS1 := Lib.hid (HST.out (by rw [hv]; decide))
          clear hv
          go_wp2
          go_quiet (fail)
          go_wp2
          go_roundg g
          case measure => omega
          case rel => exact ⟨1 + 1, by go_num, by omega, HS1.out, below_dn HB.out _, hsz⟩
        · rw [hv] at h0
          have HE : Hid (preN 2 l = 2) := HBAD.out (by rw [hv]; decide)
          clear hv
          go_wp2
          go_quiet (fail)
          go_wp2
          go_ret2
          exact ⟨.inr ⟨2, (preE_yes (o := 2) rfl).trans HE.out, by decide, rfl⟩, below_dn HB.out _⟩
      · cases hv : p.v
        · rw [hv] at h0
          have HE : Hid (preN 2 l = 2) := HBAD.out (by rw [hv]; decide)
          clear hv
          go_wp2
          go_quiet (fail)
          go_wp2
          go_ret2
          exact ⟨.inr ⟨2, (preE_yes (o := 2) rfl).trans HE.out, by decide, rfl⟩, below_dn HB.out _⟩
        · rw [hv] at h0
          have HS1 := Lib.hid (HST.out (by rw [hv]; decide))
          clear hv
          go_wp2
          go_quiet (fail)
          go_wp2
          go_roundg g
          case measure => omega
          case rel => exact ⟨2 + 1, by go_num, by omega, HS1.out, below_dn HB.out _, hsz⟩
      · cases hv : p.v
        · rw [hv] at h0
          have HS1 := Lib.hid (HST.out (by rw [hv]; decide))
          clear hv
          go_wp2
          go_quiet (fail)
          go_wp2
          go_roundg g
          case measure => omega
          case rel => exact ⟨3 + 1, by go_num, by omega, HS1.out, below_dn HB.out _, hsz⟩
        · rw [hv] at h0
          have HE : Hid (preN 2 l = 2) := HBAD.out (by rw [hv]; decide)
          clear hv
          go_wp2
          go_quiet (fail)
          go_wp2
          go_ret2
          exact ⟨.inr ⟨2, (preE_yes (o := 2) rfl).trans HE.out, by decide, rfl⟩, below_dn HB.out _⟩


set_option maxRecDepth 100000 in
set_option maxHeartbeats 1000000 in
theorem rPrefix_3 (A : Option Addr) (c : Nat) (l : List PartP) (w : World) (hs : SlP w w.heap.size A l) (hl4 : l.length ≤ 4) (hz : ∀ p ∈ l, p.s.size ≤ maxLen) (hok : ∀ p ∈ l, partOk p) :
    Calls Try.prog 37 #[.int .i64 3, .slice A l.length c] w (PreEnd w 3 l) := by
  have HS := Lib.hid hs
  have HOK := Lib.hid hok
  have HZ := Lib.hid hz
  clear hs hok hz
  have hi4 : decide ((4 : Int) < (l.length : Int)) = false := decide_eq_false (by omega)
  go_enter Try.func37, Try.ntmps37
  go_wp2_with fail
  refine (shape_3 _).mono ?_
  rintro e w1 ⟨rfl, rfl⟩
  go_wp2
  go_loopg [7] l.length (fun g y wr => ∃ j : Nat, y = .int .i64 j ∧ j + g = l.length ∧ Hid (∀ i (h : i < l.length), i < j → l[i].v = decide (i = 1)) ∧ Hid (Below w.heap.size w wr) ∧ w.heap.size ≤ wr.heap.size)
  case atStart => exact ⟨0, rfl, by omega, fun i _ h => absurd h (Nat.not_lt_zero _), Below.refl _ _, Nat.le_refl _⟩
  case round =>
    obtain ⟨j, rfl, hj, HK, HB, hsz⟩ := hrel
    cases gk with
    | zero =>
      have hjz : ¬ ((j : Int) < (l.length : Int)) := by omega
      have HF : Hid (∀ i (h : i < l.length), l[i].v = decide (i = 1)) := fun i h => HK.out i h (by omega)
      go_wp2_with fail
      refine (refKey_small A c l _ ((HS.out.next HB.out (Nat.le_refl _)).more HB.out.size) hl4 HZ.out HOK.out).mono ?_
      intro e w3 he
      have HE := Lib.hid (rpre_end (o := 3) rfl hl4 HF.out HB.out he)
      obtain ⟨v, n, rfl⟩ := keyEnd_form he
      clear he
      go_wp2
      go_ret2
      exact HE.out
    | succ g =>
      have hjz : (j : Int) < (l.length : Int) := by omega
      have hjn : j < l.length := by omega
      have HBAD := Lib.hid (fun h => pre_bad (pv := 1) hjn h)
      have HST : Hid (l[j].v = decide (j = 1) → ∀ i (h : i < l.length), i < j + 1 → l[i].v = decide (i = 1)) := fun e i h hi => by
        by_cases hij : i = j
        · subst hij; exact e
        · exact HK.out i h (by omega)
      obtain ⟨b, q, rfl, hblt, hp⟩ := (HS.out.next HB.out (Nat.le_refl _)).at_ hjn
      obtain ⟨p, hpe⟩ : ∃ p, l[j] = p := ⟨_, rfl⟩
      rw [hpe] at hp HBAD HST
      have h0 := hp.c0
      clear hp hpe
      rcases (by omega : j = 0 ∨ j = 1 ∨ j = 2 ∨ j = 3) with rfl | rfl | rfl | rfl
      · cases hv : p.v
        · rw [hv] at h0
          simp only [Nat.zero_mul, Nat.add_zero] at h0
          have HS1 := Lib.hid (HST.out (by rw [hv]; decide))
          clear hv
          go_wp2
          go_quiet (fail)
          go_wp2
          go_roundg g
          case measure => omega
          case rel => exact ⟨0 + 1, by go_num, by omega, HS1.out, below_dn HB.out _, hsz⟩
        · rw [hv] at h0
          simp only [Nat.zero_mul, Nat.add_zero] at h0
          have HE : Hid (preN 1 l = 2) := HBAD.out (by rw [hv]; decide)
          clear hv
          go_wp2
          go_quiet (fail)
          go_wp2
          go_ret2
          exact ⟨.inr ⟨2, (preE_yes (o := 3) rfl).trans HE.out, by decide, rfl⟩, below_dn HB.out _⟩
      · cases hv : p.v
        · rw [hv] at h0
          have HE : Hid (preN 1 l = 2) := HBAD.out (by rw [hv]; decide)
          clear hv
          go_wp2
          go_quiet (fail)
          go_wp2
          go_ret2
          exact ⟨.inr ⟨2, (preE_yes (o := 3) rfl).trans HE.out, by decide, rfl⟩, below_dn HB.out _⟩
        · rw [hv] at h0
          have HS1 := Lib.hid (HST.out (by rw [hv]; decide))
          clear hv
          go_wp2
          go_quiet (fail)
          go_wp2
          go_roundg g
          case measure => omega
          case rel => exact ⟨1 + 1, by go_num, by omega, HS1.out, below_dn HB.out _, hsz⟩
      · cases hv : p.v
        · rw [hv] at h0
          have HS1 := Lib.hid (HST.out (by rw [hv]; decide))
          clear hv
          go_wp2
          go_quiet (fail)
          go_wp2
          go_roundg g
          case measure => omega
          case rel => exact ⟨2 + 1, by go_num, by omega, HS1.out, below_dn HB.out _, hsz⟩
        · rw [hv] at h0
          have HE : Hid (preN 1 l = 2) := HBAD.out (by rw [hv]; decide)
          clear hv
          go_wp2
          go_quiet (fail)
          go_wp2
          go_ret2
          exact ⟨.inr ⟨2, (preE_yes (o := 3) rfl).trans HE.out, by decide, rfl⟩, below_dn HB.out _⟩
      · cases hv : p.v
        · rw [hv] at h0
          have HS1 := Lib.hid (HST.out (by rw [hv]; decide))
          clear hv
          go_wp2
          go_quiet (fail)
          go_wp2
          go_roundg g
          case measure => omega
          case rel => exact ⟨3 + 1, by go_num, by omega, HS1.out, below_dn HB.out _, hsz⟩
        · rw [hv] at h0
          have HE : Hid (preN 1 l = 2) := HBAD.out (by rw [hv]; decide)
          clear hv
          go_wp2
          go_quiet (fail)
          go_wp2
          go_ret2
          exact ⟨.inr ⟨2, (preE_yes (o := 3) rfl).trans HE.out, by decide, rfl⟩, below_dn HB.out _⟩


set_option maxRecDepth 100000 in
set_option maxHeartbeats 1000000 in
theorem rPrefix_4 (A : Option Addr) (c : Nat) (l : List PartP) (w : World) (hs : SlP w w.heap.size A l) (hl4 : l.length ≤ 4) (hz : ∀ p ∈ l, p.s.size ≤ maxLen) (hok : ∀ p ∈ l, partOk p) :
    Calls Try.prog 37 #[.int .i64 4, .slice A l.length c] w (PreEnd w 4 l) := by
  have HS := Lib.hid hs
  have HOK := Lib.hid hok
  have HZ := Lib.hid hz
  clear hs hok hz
  have hi4 : decide ((4 : Int) < (l.length : Int)) = false := decide_eq_false (by omega)
  go_enter Try.func37, Try.ntmps37
  go_wp2_with fail
  refine (shape_4 _).mono ?_
  rintro e w1 ⟨rfl, rfl⟩
  go_wp2
  go_loopg [7] l.length (fun g y wr => ∃ j : Nat, y = .int .i64 j ∧ j + g = l.length ∧ Hid (∀ i (h : i < l.length), i < j → l[i].v = decide (i = 0)) ∧ Hid (Below w.heap.size w wr) ∧ w.heap.size ≤ wr.heap.size)
  case atStart => exact ⟨0, rfl, by omega, fun i _ h => absurd h (Nat.not_lt_zero _), Below.refl _ _, Nat.le_refl _⟩
  case round =>
    obtain ⟨j, rfl, hj, HK, HB, hsz⟩ := hrel
    cases gk with
    | zero =>
      have hjz : ¬ ((j : Int) < (l.length : Int)) := by omega
      have HF : Hid (∀ i (h : i < l.length), l[i].v = decide (i = 0)) := fun i h => HK.out i h (by omega)
      go_wp2_with fail
      refine (refKey_small A c l _ ((HS.out.next HB.out (Nat.le_refl _)).more HB.out.size) hl4 HZ.out HOK.out).mono ?_
      intro e w3 he
      have HE := Lib.hid (rpre_end (o := 4) rfl hl4 HF.out HB.out he)
      obtain ⟨v, n, rfl⟩ := keyEnd_form he
      clear he
      go_wp2
      go_ret2
      exact HE.out
    | succ g =>
      have hjz : (j : Int) < (l.length : Int) := by omega
      have hjn : j < l.length := by omega
      have HBAD := Lib.hid (fun h => pre_bad (pv := 0) hjn h)
      have HST : Hid (l[j].v = decide (j = 0) → ∀ i (h : i < l.length), i < j + 1 → l[i].v = decide (i = 0)) := fun e i h hi => by
        by_cases hij : i = j
        · subst hij; exact e
        · exact HK.out i h (by omega)
      obtain ⟨b, q, rfl, hblt, hp⟩ := (HS.out.next HB.out (Nat.le_refl _)).at_ hjn
      obtain ⟨p, hpe⟩ : ∃ p, l[j] = p := ⟨_, rfl⟩
      rw [hpe] at hp HBAD HST
      have h0 := hp.c0
      clear hp hpe
      rcases (by omega : j = 0 ∨ j = 1 ∨ j = 2 ∨ j = 3) with rfl | rfl | rfl | rfl
      · cases hv : p.v
        · rw [hv] at h0
          simp only [Nat.zero_mul, Nat.add_zero] at h0
          have HE : Hid (preN 0 l = 2) := HBAD.out (by rw [hv]; decide)
          clear hv
          go_wp2
          go_quiet (fail)
          go_wp2
          go_ret2
          exact ⟨.inr ⟨2, (preE_yes (o := 4) rfl).trans HE.out, by decide, rfl⟩, below_dn HB.out _⟩
        · rw [hv] at h0
          simp only [Nat.zero_mul, Nat.add_zero] at h0
          have HS1 := Lib.hid (HST.out (by rw [hv]; decide))
          clear hv
          go_wp2
          go_quiet (fail)
          go_wp2
          go_roundg g
          case measure => omega
          case rel => exact ⟨0 + 1, by go_num, by omega, HS1.out, below_dn HB.out _, hsz⟩
      · cases hv : p.v
        · rw [hv] at h0
          have HS1 := Lib.hid (HST.out (by rw [hv]; decide))
          clear hv
          go_wp2
          go_quiet (fail)
          go_wp2
          go_roundg g
          case measure => omega
          case rel => exact ⟨1 + 1, by go_num, by omega, HS1.out, below_dn HB.out _, hsz⟩
        · rw [hv] at h0
          have HE : Hid (preN 0 l = 2) := HBAD.out (by rw [hv]; decide)
          clear hv
          go_wp2
          go_quiet (fail)
          go_wp2
          go_ret2
          exact ⟨.inr ⟨2, (preE_yes (o := 4) rfl).trans HE.out, by decide, rfl⟩, below_dn HB.out _⟩
      · cases hv : p.v
        · rw [hv] at h0
          have HS1 := Lib.hid (HST.out (by rw [hv]; decide))
          clear hv
          go_wp2
          go_quiet (fail)
          go_wp2
          go_roundg g
          case measure => omega
          case rel => exact ⟨2 + 1, by go_num, by omega, HS1.out, below_dn HB.out _, hsz⟩
        · rw [hv] at h0
          have HE : Hid (preN 0 l = 2) := HBAD.out (by rw [hv]; decide)
          clear hv
          go_wp2
          go_quiet (fail)
          go_wp2
          go_ret2
          exact ⟨.inr ⟨2, (preE_yes (o := 4) rfl).trans HE.out, by decide, rfl⟩, below_dn HB.out _⟩
      · cases hv : p.v
        · rw [hv] at h0
          have HS1 := Lib.hid (HST.out (by rw [hv]; decide))
          clear hv
          go_wp2
          go_quiet (fail)
          go_wp2
          go_roundg g
          case measure => omega
          case rel => exact ⟨3 + 1, by go_num, by omega, HS1.out, below_dn HB.out _, hsz⟩
        · rw [hv] at h0
          have HE : Hid (preN 0 l = 2) := HBAD.out (by rw [hv]; decide)
          clear hv
          go_wp2
          go_quiet (fail)
          go_wp2
          go_ret2
          exact ⟨.inr ⟨2, (preE_yes (o := 4) rfl).trans HE.out, by decide, rfl⟩, below_dn HB.out _⟩


set_option maxRecDepth 100000 in
set_option maxHeartbeats 1000000 in
theorem rPrefix_any (o : Int) (A : Option Addr) (c : Nat) (l : List PartP) (w : World) (hs : SlP w w.heap.size A l) (hz : ∀ p ∈ l, p.s.size ≤ maxLen) (hlm : l.length ≤ maxLen) (hok : ∀ p ∈ l, partOk p) :
    Calls Try.prog 37 #[.int .i64 o, .slice A l.length c] w (PreEnd w o l) := by
  have hlm' : l.length ≤ 9223372036854775807 := hlm
  cases ho : isO o
  · have HE := Lib.hid (preE_no (l := l) ho)
    rcases noO ho with h | ⟨h, h'⟩
    · clear ho
      go_enter Try.func37, Try.ntmps37
      go_wp2
      go_ret2
      exact ⟨.inr ⟨2, HE.out, by decide, rfl⟩, Below.refl _ _⟩
    · clear ho
      have h0 : decide (o < 1) = false := decide_eq_false (by omega)
      go_enter Try.func37, Try.ntmps37
      go_wp2
      go_ret2
      exact ⟨.inr ⟨2, HE.out, by decide, rfl⟩, Below.refl _ _⟩
  by_cases h4 : 4 < l.length
  · have HE : Hid (preE o l = 2) := (preE_yes ho).trans (pre_long h4)
    have hi4 : (4 : Int) < (l.length : Int) := by omega
    have h0 : decide (o < 1) = false := decide_eq_false (by have := yesO ho; omega)
    have h1 : decide (4 < o) = false := decide_eq_false (by have := yesO ho; omega)
    clear ho h4
    go_enter Try.func37, Try.ntmps37
    go_wp2
    go_ret2
    exact ⟨.inr ⟨2, HE.out, by decide, rfl⟩, Below.refl _ _⟩
  rcases isO_cases ho with rfl | rfl | rfl | rfl
  · exact rPrefix_1 A c l w hs (by omega) hz hok
  · exact rPrefix_2 A c l w hs (by omega) hz hok
  · exact rPrefix_3 A c l w hs (by omega) hz hok
  · exact rPrefix_4 A c l w hs (by omega) hz hok

set_option maxRecDepth 100000 in
set_option maxHeartbeats 1000000 in
theorem rBegins_any (o : Int) (A : Option Addr) (c : Nat) (l : List PartP) (d : Dat) (w : World) (hs : SlP w w.heap.size A l) (hz : ∀ p ∈ l, p.s.size ≤ maxLen) (hlm : l.length ≤ maxLen) (hok : ∀ p ∈ l, partOk p) (hdz : d.s.size ≤ maxLen) :
    Calls Try.prog 39 #[.int .i64 o, .slice A l.length c, .agg #[.int .i64 d.e, .int .i64 d.a, .int .i64 d.k, .int .i64 d.m, .string d.s, .int .i64 d.t, .bool d.add, .int .i64 d.fr, .int .i64 d.til]] w fun e w' => e = .returned (.bool (begB o l d)) ∧ Below w.heap.size w w' := by
  have HB0 : Hid (Below w.heap.size w (w.alloc (.cells #[.int .i64 d.e, .int .i64 d.a, .int .i64 d.k, .int .i64 d.m, .string d.s, .int .i64 d.t, .bool d.add, .int .i64 d.fr, .int .i64 d.til] 42))) := (Below.refl _ _).alloc (Nat.le_refl _) _
  have HD0 := Lib.hid (datAt_new w d)
  have HPX := Lib.hid (fun X h => rPrefix_any o A c l X h hz hlm hok)
  have hln : preE o l = 0 → isO o = true ∧ l.length ≤ 4 := fun h => by
    cases ho : isO o with
    | false => rw [preE_no ho] at h; cases h
    | true => rw [preE_yes ho] at h; exact ⟨rfl, (preN_zero h).2.2⟩
  have hha := fun X => rHas_any o d X
  obtain ⟨hd, hhd⟩ : ∃ b, hasD o d = b := ⟨_, rfl⟩
  rw [hhd] at hha
  have HHA := Lib.hid hha
  have HHD := Lib.hid hhd
  have HLN := Lib.hid hln
  have HS := Lib.hid hs
  have HZ := Lib.hid hz
  have HDZ := Lib.hid hdz
  clear hha hhd hln hs hz hok hdz
  go_enter Try.func39, Try.ntmps39
  go_wp2_with fail
  refine (HPX.out _ ((HS.out.next HB0.out (Nat.le_refl _)).more HB0.out.size)).mono ?_
  rintro e w1 he
  obtain ⟨X, xc, rfl, _, _, _, hb⟩ := preEnd_is he
  have HB1 := Lib.hid (HB0.out.trans (hb.mono HB0.out.size))
  have HD1 := Lib.hid (HD0.out.next hb HD0.out.lt)
  clear he hb
  have HBN := Lib.hid (fun h => begB_no (o := o) (l := l) (d := d) h)
  have HBI := Lib.hid (fun h h2 b h3 => begB_is (o := o) (l := l) (d := d) h h2 b h3)
  obtain ⟨K, hK⟩ : ∃ K, (preL o l).length = K := ⟨_, rfl⟩
  obtain ⟨n, hn⟩ : ∃ n, preE o l = n := ⟨_, rfl⟩
  rw [hn] at HLN HBN HBI
  rw [hn, hK]
  clear hn hK
  by_cases h0 : n = 0
  · subst h0
    have d0 := HD1.out.c0
    have d1 := HD1.out.c1
    have d2 := HD1.out.c2
    have d3 := HD1.out.c3
    have d4 := HD1.out.c4
    have d5 := HD1.out.c5
    have d6 := HD1.out.c6
    have d7 := HD1.out.c7
    have d8 := HD1.out.c8
    go_wp2_with fail
    refine (HHA.out _).mono ?_
    rintro e w2 ⟨rfl, hb⟩
    have HB2 := Lib.hid (HB1.out.trans (hb.mono HB1.out.size))
    have HD2 := Lib.hid (HD1.out.next hb HD1.out.lt)
    clear hb HB1 HD1 d0 d1 d2 d3 d4 d5 d6 d7 d8
    cases hd
    · have HF : Hid (begB o l d = false) := begB_has HHD.out
      go_wp2
      go_ret
      exact ⟨by rw [HF.out]; rfl, HB2.out⟩
    have d0 := HD2.out.c0
    have d1 := HD2.out.c1
    have d2 := HD2.out.c2
    have d3 := HD2.out.c3
    have d4 := HD2.out.c4
    have d5 := HD2.out.c5
    have d6 := HD2.out.c6
    have d7 := HD2.out.c7
    have d8 := HD2.out.c8
    go_wp2_with fail
    refine (refParts_any o d _ (HLN.out trivial).1).mono ?_
    rintro e w3 ⟨v, rfl, ho3, hb⟩
    obtain ⟨A3, c3, rfl, hs3⟩ := ho3.slp
    have HB3 := Lib.hid (HB2.out.trans (hb.mono HB2.out.size))
    have HS3 := Lib.hid hs3
    clear hb ho3 hs3 d0 d1 d2 d3 d4 d5 d6 d7 d8
    go_wp2_with fail
    refine (refCmp_wide A A3 c c3 l (partsD o d) _ _ ((HS.out.next HB3.out (Nat.le_refl _)).more HB3.out.size) HS3.out (Nat.le_refl _) (by have := (HLN.out trivial).2; omega) (by rw [partsD_len]; omega) HZ.out (fun p hp => Nat.le_trans (partsD_size p hp) HDZ.out)).mono ?_
    rintro e w4 ⟨rfl, hb⟩
    have HB4 := Lib.hid (HB3.out.trans (hb.mono HB3.out.size))
    clear hb
    obtain ⟨g0, hg0⟩ : ∃ g, ordK l (partsD o d) = g := ⟨_, rfl⟩
    rw [hg0]
    by_cases hgz : g0 = 0
    · have HF : Hid (begB o l d = true) := HBI.out trivial HHD.out true (by rw [hg0, hgz]; exact ⟨fun _ => rfl, fun _ => rfl⟩)
      subst hgz
      clear hg0
      go_wp2
      go_ret
      exact ⟨by rw [HF.out]; rfl, HB4.out⟩
    · have HF : Hid (begB o l d = false) := HBI.out trivial HHD.out false (by rw [hg0]; exact ⟨fun h => absurd h hgz, fun h => by cases h⟩)
      have hq : (g0 == 0) = false := by simpa using hgz
      clear hg0 hgz
      go_wp2
      go_ret
      exact ⟨by rw [HF.out]; rfl, HB4.out⟩
  · have hq : (n != 0) = true := by simpa using h0
    have HF : Hid (begB o l d = false) := HBN.out h0
    go_wp2
    go_ret
    exact ⟨by rw [HF.out]; rfl, HB1.out⟩
end Go.Proofs.Ytefekkcmoambhaa

/-
  THE LAW DatomPrefixes: its walk.
-/
namespace Go.Proofs.Ytefekkcmoambhaa
open Go.RowKit Go.Shelf

/-- what the last region reads -/
def PlS (N bd : Nat) (d : Dat) (X Y : Option Addr) (K : List UInt8) (W : World) : Prop :=
  DatAt W bd d ∧ (SlB W N X K ∧ SlB W N Y K) ∧ N ≤ W.heap.size
theorem PlS.next {N bd : Nat} {d : Dat} {X Y : Option Addr} {K : List UInt8} {W W' : World} (h : PlS N bd d X Y K W) (hb : Below W.heap.size W W') : PlS N bd d X Y K W' :=
  ⟨h.1.next hb h.1.lt, ⟨h.2.1.1.next hb h.2.2, h.2.1.2.next hb h.2.2⟩, Nat.le_trans h.2.2 hb.size⟩

set_option maxRecDepth 100000 in
set_option maxHeartbeats 1000000 in
theorem dPre_any (o : Int) (A : Option Addr) (c : Nat) (l : List PartP) (d : Dat) (w : World) (hs : SlP w w.heap.size A l) (hz : ∀ p ∈ l, p.s.size ≤ maxLen) (hlm : l.length ≤ maxLen) (hok : ∀ p ∈ l, partOk p) (hdz : d.s.size ≤ maxLen) :
    Calls Try.prog 6 #[.int .i64 o, .slice A l.length c, .agg #[.int .i64 d.e, .int .i64 d.a, .int .i64 d.k, .int .i64 d.m, .string d.s, .int .i64 d.t, .bool d.add, .int .i64 d.fr, .int .i64 d.til]] w fun e w' => e = .returned (.bool true) ∧ Below w.heap.size w w' := by
  have hdz' : d.s.size ≤ 9223372036854775807 := hdz
  have hlm' : l.length ≤ 9223372036854775807 := hlm
  obtain ⟨w0, hw0⟩ : ∃ w0, w.alloc (.cells #[.int .i64 d.e, .int .i64 d.a, .int .i64 d.k, .int .i64 d.m, .string d.s, .int .i64 d.t, .bool d.add, .int .i64 d.fr, .int .i64 d.til] 42) = w0 := ⟨_, rfl⟩
  have HD0 : Hid (DatAt w0 w.heap.size d) := by rw [← hw0]; exact datAt_new w d
  have HB0 : Hid (Below w.heap.size w w0) := by rw [← hw0]; exact (Below.refl _ _).alloc (Nat.le_refl _) _
  have HW0 := Lib.hid hw0
  have HP1 := Lib.hid (fun X h => prefix_any o A c l X h hz hlm hok)
  have HP2 := Lib.hid (fun X h => rPrefix_any o A c l X h hz hlm hok)
  have hbg1 := fun X h => begins_any o A c l d X h hz hlm
  have hbg2 := fun X h => rBegins_any o A c l d X h hz hlm hok hdz
  obtain ⟨bb, hbb⟩ : ∃ b, begB o l d = b := ⟨_, rfl⟩
  rw [hbb] at hbg1 hbg2
  have HG1 := Lib.hid hbg1
  have HG2 := Lib.hid hbg2
  have HS := Lib.hid hs
  have HZ := Lib.hid hz
  have c4 := HD0.out.c4
  clear hw0 hbg1 hbg2 hbb hs hz hok hdz hlm
  go_enter Try.func6, Try.ntmps6
  go_upto_region 1 with (fail)
  rw [HW0.out]
  go_wp2
  go_loopg [7, 8] l.length (fun g x y wr => ∃ (n : Int) (j : Nat), x = .int .i64 n ∧ y = .int .i64 j ∧ j + g = l.length ∧ wr = w0)
  case atStart => exact ⟨_, 0, rfl, rfl, by omega, rfl⟩
  case round =>
    obtain ⟨n, j, rfl, rfl, hj, rfl⟩ := hrel
    cases gk with
    | succ g =>
      have hjz : (j : Int) < (l.length : Int) := by omega
      have hjn : j < l.length := by omega
      have hps : l[j].s.size ≤ 9223372036854775807 := HZ.out _ (List.getElem_mem hjn)
      obtain ⟨b, q, rfl, hblt, hp⟩ := (HS.out.next HB0.out (Nat.le_refl _)).at_ hjn
      obtain ⟨p, hpe⟩ : ∃ p, l[j] = p := ⟨_, rfl⟩
      rw [hpe] at hp hps
      have p4 := hp.c4
      clear hp hpe c4
      go_wp2
      go_roundg g
      case measure => omega
      case rel => exact ⟨_, j + 1, rfl, by go_num, by omega, rfl⟩
    | zero =>
      have hjz : ¬ ((j : Int) < (l.length : Int)) := by omega
      clear c4
      by_cases h6 : 6000 < n
      · go_wp2
        go_ret
        exact ⟨rfl, HB0.out⟩
      have h6' : decide (6000 < n) = false := decide_eq_false h6
      clear h6
      go_wp2_with fail
      refine (HP1.out _ ((HS.out.next HB0.out (Nat.le_refl _)).more HB0.out.size)).mono ?_
      rintro e w1 he
      obtain ⟨X, xc, rfl, hx, _, _, hb⟩ := preEnd_is he
      have HB1 := Lib.hid (HB0.out.trans (hb.mono HB0.out.size))
      have HD1 := Lib.hid (HD0.out.next hb HD0.out.lt)
      have HX := Lib.hid hx
      clear hb he hx
      go_wp2_with fail
      refine (HP2.out _ ((HS.out.next HB1.out (Nat.le_refl _)).more HB1.out.size)).mono ?_
      rintro e w2 he
      obtain ⟨Y, yc, rfl, hy, _, _, hb⟩ := preEnd_is he
      have HB2 := Lib.hid (HB1.out.trans (hb.mono HB1.out.size))
      have HSS : Hid (PlS w2.heap.size w.heap.size d X Y (preL o l) w2) := ⟨HD1.out.next hb HD1.out.lt, ⟨(HX.out.next hb (Nat.le_refl _)).more hb.size, hy⟩, Nat.le_refl _⟩
      clear hb he hy HX HD1
      obtain ⟨S9, hS9⟩ : ∃ S : ByteArray, ⟨(preL o l).toArray⟩ = S := ⟨_, rfl⟩
      obtain ⟨KL, hKL⟩ : ∃ K, preL o l = K := ⟨_, rfl⟩
      obtain ⟨E, hE⟩ : ∃ K, preE o l = K := ⟨_, rfl⟩
      rw [hKL] at HSS hS9
      rw [hKL, hE]
      have HS9 := Lib.hid hS9
      clear hKL hE hS9
      go_wp2_with fail
      have HSD : Hid (PlS w2.heap.size w.heap.size d X Y KL w2.drew) := HSS.out
      have HBD : Hid (Below w.heap.size w w2.drew) := HB2.out.drew
      obtain ⟨wd, hwd⟩ : ∃ wd, w2.drew = wd := ⟨_, rfl⟩
      rw [hwd] at HSD HBD
      refine wp_region_held_drew (S := PlS w2.heap.size w.heap.size d X Y KL) (by kernel_rfl) (by rw [hwd]; exact HSD.out) (fun hHeld => ?_)
      rw [hwd] at hHeld ⊢
      clear hwd
      refine takeV 0 (some 47) ((.slice X KL.length xc)) rfl rfl (by kernel_rfl) (by kernel_rfl) (by kernel_rfl) (fun _ _ _ h => h) (by rfl) (by (intro _w _hSw; (try dsimp only at _hSw); go_simp)) (by assumption) ?_
      simp only [Act.put, List.setIfInBounds_toArray, List.set_cons_zero, List.set_cons_succ]
      refine takeV 1 (some 48) ((.string S9)) rfl rfl (by kernel_rfl) (by kernel_rfl) (by kernel_rfl) (fun _ _ _ h => h) (by rfl) (by (intro _w hSw; have q := slB_string hSw.2.1.1 xc; rw [HS9.out] at q; clear hSw; go_simp)) (by assumption) ?_
      simp only [Act.put, List.setIfInBounds_toArray, List.set_cons_zero, List.set_cons_succ]
      refine takeV 2 (some 49) ((.slice Y KL.length yc)) rfl rfl (by kernel_rfl) (by kernel_rfl) (by kernel_rfl) (fun _ _ _ h => h) (by rfl) (by (intro _w _hSw; (try dsimp only at _hSw); go_simp)) (by assumption) ?_
      simp only [Act.put, List.setIfInBounds_toArray, List.set_cons_zero, List.set_cons_succ]
      refine takeV 3 (some 50) ((.string S9)) rfl rfl (by kernel_rfl) (by kernel_rfl) (by kernel_rfl) (fun _ _ _ h => h) (by rfl) (by (intro _w hSw; have q := slB_string hSw.2.1.2 yc; rw [HS9.out] at q; clear hSw; go_simp)) (by assumption) ?_
      simp only [Act.put, List.setIfInBounds_toArray, List.set_cons_zero, List.set_cons_succ]
      refine takeV 4 (some 51) ((.bool true)) rfl rfl (by kernel_rfl) (by kernel_rfl) (by kernel_rfl) (fun _ _ _ h => h) (by rfl) (by (intro _w _hSw; (try dsimp only at _hSw); go_simp)) (by assumption) ?_
      simp only [Act.put, List.setIfInBounds_toArray, List.set_cons_zero, List.set_cons_succ]
      refine takeV 5 (some 52) ((.bool true)) rfl rfl (by kernel_rfl) (by kernel_rfl) (by kernel_rfl) (fun _ _ _ h => h) (by rfl) (by (intro _w _hSw; (try dsimp only at _hSw); go_simp)) (by assumption) ?_
      simp only [Act.put, List.setIfInBounds_toArray, List.set_cons_zero, List.set_cons_succ]
      refine takeV 6 (some 53) ((.int .i64 E)) rfl rfl (by kernel_rfl) (by kernel_rfl) (by kernel_rfl) (fun _ _ _ h => h) (by rfl) (by (intro _w _hSw; (try dsimp only at _hSw); go_simp)) (by assumption) ?_
      simp only [Act.put, List.setIfInBounds_toArray, List.set_cons_zero, List.set_cons_succ]
      refine takeV 7 (some 54) ((.int .i64 E)) rfl rfl (by kernel_rfl) (by kernel_rfl) (by kernel_rfl) (fun _ _ _ h => h) (by rfl) (by (intro _w _hSw; (try dsimp only at _hSw); go_simp)) (by assumption) ?_
      simp only [Act.put, List.setIfInBounds_toArray, List.set_cons_zero, List.set_cons_succ]
      refine takeV 8 (some 55) ((.bool true)) rfl rfl (by kernel_rfl) (by kernel_rfl) (by kernel_rfl) (fun _ _ _ h => h) (by rfl) (by (intro _w _hSw; (try dsimp only at _hSw); go_simp)) (by assumption) ?_
      simp only [Act.put, List.setIfInBounds_toArray, List.set_cons_zero, List.set_cons_succ]
      refine takeV 9 (some 56) ((.bool true)) rfl rfl (by kernel_rfl) (by kernel_rfl) (by kernel_rfl) (fun _ _ _ h => h) (by rfl) (by (intro _w _hSw; (try dsimp only at _hSw); go_simp)) (by assumption) ?_
      simp only [Act.put, List.setIfInBounds_toArray, List.set_cons_zero, List.set_cons_succ]
      refine takeV 10 (some 57) ((.bool true)) rfl rfl (by kernel_rfl) (by kernel_rfl) (by kernel_rfl) (fun _ _ _ h => h) (by rfl) (by (intro _w _hSw; (try dsimp only at _hSw); go_simp)) (by assumption) ?_
      simp only [Act.put, List.setIfInBounds_toArray, List.set_cons_zero, List.set_cons_succ]
      refine takeV 11 (some 58) ((.int .i64 o)) rfl rfl (by kernel_rfl) (by kernel_rfl) (by kernel_rfl) (fun _ _ _ h => h) (by rfl) (by (intro _w _hSw; (try dsimp only at _hSw); go_simp)) (by assumption) ?_
      simp only [Act.put, List.setIfInBounds_toArray, List.set_cons_zero, List.set_cons_succ]
      refine takeV 12 (some 59) ((.slice A l.length c)) rfl rfl (by kernel_rfl) (by kernel_rfl) (by kernel_rfl) (fun _ _ _ h => h) (by rfl) (by (intro _w _hSw; (try dsimp only at _hSw); go_simp)) (by assumption) ?_
      simp only [Act.put, List.setIfInBounds_toArray, List.set_cons_zero, List.set_cons_succ]
      refine takeV 13 (some 60) ((.agg #[.int .i64 d.e, .int .i64 d.a, .int .i64 d.k, .int .i64 d.m, .string d.s, .int .i64 d.t, .bool d.add, .int .i64 d.fr, .int .i64 d.til])) rfl rfl (by kernel_rfl) (by kernel_rfl) (by kernel_rfl) (fun _ _ _ h => h) (by rfl) (by (intro _w hSw; have q0 := hSw.1.c0; have q1 := hSw.1.c1; have q2 := hSw.1.c2; have q3 := hSw.1.c3; have q4 := hSw.1.c4; have q5 := hSw.1.c5; have q6 := hSw.1.c6; have q7 := hSw.1.c7; have q8 := hSw.1.c8; clear hSw; go_simp)) (by assumption) ?_
      simp only [Act.put, List.setIfInBounds_toArray, List.set_cons_zero, List.set_cons_succ]
      refine takeV 15 (some 62) ((.int .i64 o)) rfl rfl (by kernel_rfl) (by kernel_rfl) (by kernel_rfl) (fun _ _ _ h => h) (by rfl) (by (intro _w _hSw; (try dsimp only at _hSw); go_simp)) (by assumption) ?_
      simp only [Act.put, List.setIfInBounds_toArray, List.set_cons_zero, List.set_cons_succ]
      refine takeV 16 (some 63) ((.slice A l.length c)) rfl rfl (by kernel_rfl) (by kernel_rfl) (by kernel_rfl) (fun _ _ _ h => h) (by rfl) (by (intro _w _hSw; (try dsimp only at _hSw); go_simp)) (by assumption) ?_
      simp only [Act.put, List.setIfInBounds_toArray, List.set_cons_zero, List.set_cons_succ]
      refine takeV 17 (some 64) ((.agg #[.int .i64 d.e, .int .i64 d.a, .int .i64 d.k, .int .i64 d.m, .string d.s, .int .i64 d.t, .bool d.add, .int .i64 d.fr, .int .i64 d.til])) rfl rfl (by kernel_rfl) (by kernel_rfl) (by kernel_rfl) (fun _ _ _ h => h) (by rfl) (by (intro _w hSw; have q0 := hSw.1.c0; have q1 := hSw.1.c1; have q2 := hSw.1.c2; have q3 := hSw.1.c3; have q4 := hSw.1.c4; have q5 := hSw.1.c5; have q6 := hSw.1.c6; have q7 := hSw.1.c7; have q8 := hSw.1.c8; clear hSw; go_simp)) (by assumption) ?_
      simp only [Act.put, List.setIfInBounds_toArray, List.set_cons_zero, List.set_cons_succ]
      refine callV 14 rfl (by kernel_rfl) (by rfl) (fun K hK => ?_)
      go_simp
      refine (HG1.out _ ((HS.out.next HBD.out (Nat.le_refl _)).more HBD.out.size)).mono ?_
      rintro e w8 ⟨rfl, hb⟩
      have HB8 := Lib.hid (HBD.out.trans (hb.mono HBD.out.size))
      refine hK.out _ _ (PlS.next hHeld hb) (fun hHeld2 => ?_)
      clear hK K hHeld hb
      try simp only [Act.put, List.setIfInBounds_toArray, List.set_cons_zero, List.set_cons_succ]
      refine callV 18 rfl (by kernel_rfl) (by rfl) (fun K hK => ?_)
      go_simp
      refine (HG2.out _ ((HS.out.next HB8.out (Nat.le_refl _)).more HB8.out.size)).mono ?_
      rintro e w9 ⟨rfl, hb⟩
      have HB9 := Lib.hid (HB8.out.trans (hb.mono HB8.out.size))
      refine hK.out _ _ (PlS.next hHeld2 hb) (fun hHeld3 => ?_)
      clear hK K hHeld2 hb
      try simp only [Act.put, List.setIfInBounds_toArray, List.set_cons_zero, List.set_cons_succ]
      refine takeV 19 (some 66) ((.bool true)) rfl rfl (by kernel_rfl) (by kernel_rfl) (by kernel_rfl) (fun _ _ _ h => h) (by rfl) (by (intro _w _hSw; (try dsimp only at _hSw); go_simp)) (by assumption) ?_
      simp only [Act.put, List.setIfInBounds_toArray, List.set_cons_zero, List.set_cons_succ]
      refine takeV 20 (some 67) ((.bool true)) rfl rfl (by kernel_rfl) (by kernel_rfl) (by kernel_rfl) (fun _ _ _ h => h) (by rfl) (by (intro _w _hSw; (try dsimp only at _hSw); go_simp)) (by assumption) ?_
      simp only [Act.put, List.setIfInBounds_toArray, List.set_cons_zero, List.set_cons_succ]
      refine takeV 21 (some 6) ((.bool true)) rfl rfl (by kernel_rfl) (by kernel_rfl) (by kernel_rfl) (fun _ _ _ h => h) (by rfl) (by (intro _w _hSw; (try dsimp only at _hSw); go_simp)) (by assumption) ?_
      simp only [Act.put, List.setIfInBounds_toArray, List.set_cons_zero, List.set_cons_succ]
      refine wpAnyH_done (by kernel_rfl) ?_ _
      go_wp2
      go_ret
      exact ⟨rfl, HB9.out⟩
end Go.Proofs.Ytefekkcmoambhaa
