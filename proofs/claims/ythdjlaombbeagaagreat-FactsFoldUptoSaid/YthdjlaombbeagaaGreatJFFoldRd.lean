/-
  CONTRACT: the document's Fold (layer 6).
-/
import Derived.Test.YthdjlaombbeagaaGreatJFSaid
import Derived.Test.YthdjlaombbeagaaGreatJSOf
import Derived.Test.YthdjlaombbeagaaGreatJSOfNot
import Derived.Test.YthdjlaombbeagaaGreatJFTurn
namespace Go.Proofs.YthdjlaombbeagaaGreat
open Go.RowKit

theorem putR_len : ∀ (l : List FactP) (f : FactP), (putR l f).length ≤ l.length + 1
  | [], _ => Nat.le_refl _
  | g :: r, f => by
    unfold putR
    split
    · have := putR_len r f; simp only [List.length_cons]; omega
    · split <;> simp
theorem foldRs_take (l p : List Dat) {j : Nat} {x : Dat} (hp : p[j]? = some x) : foldRs l (p.take (j + 1)) = if spR l x = [] then foldRs l (p.take j) else putR (foldRs l (p.take j)) (factD x (spR l x)) := by
  rw [List.take_add_one, hp]
  unfold foldRs
  rw [List.foldl_append]
  rfl
theorem said_turns (l : List Dat) (x : Dat) (t : Int) (add : Bool) : TurnsAt (endsD l) (Inn (saidL x t add l)) := (turnsAt_inn _).more fun y hy => by
  unfold endsP at hy
  obtain ⟨s, hs, hy⟩ := List.mem_flatMap.1 hy
  obtain ⟨d, hd, rfl⟩ := List.mem_map.1 hs
  exact List.mem_flatMap.2 ⟨d, (List.mem_filter.1 hd).1, hy⟩
theorem said_len (l : List Dat) (x : Dat) (t : Int) (add : Bool) : (saidL x t add l).length ≤ l.length := by
  unfold saidL
  rw [List.length_map]
  exact List.length_filter_le _ _
/-- the box of the fact under way -/
structure StF (W0 W : World) (b : Nat) (x : Dat) (E : List Int) (s : List Sp) (A : Option Addr) (c : Nat) : Prop where
  below : Below W0.heap.size W0 W
  box : FcBx W b (factD x s) (.slice A s.length c)
  sv : SV W (.slice A s.length c) s
  nil : A = none → s.length = 0 ∧ c = 0
  set : SetL s
  turns : TurnsAt E (Inn s)
theorem StF.sl {W0 W : World} {b : Nat} {x : Dat} {E : List Int} {s : List Sp} {A : Option Addr} {c : Nat} (h : StF W0 W b x E s A c) : SlS W W.heap.size A s := by
  obtain ⟨A', c', e, hs, _⟩ := h.sv
  injection e with e1 e2 e3
  subst e1
  exact hs
theorem StF.next {W0 W W' : World} {b : Nat} {x : Dat} {E : List Int} {s : List Sp} {A : Option Addr} {c : Nat} (h : StF W0 W b x E s A c) (hb : Below W.heap.size W W') : StF W0 W' b x E s A c :=
  ⟨h.below.trans (hb.mono h.below.size), h.box.next hb, h.sv.next hb, h.nil, h.set, h.turns⟩
theorem StF.put {W0 W W' : World} {b B : Nat} {x : Dat} {E : List Int} {s s' : List Sp} {A : Option Addr} {c : Nat} {v : Value} (h : StF W0 W b x E s A c) (hb : Below W.heap.size W W') (h0 : W0.heap.size ≤ b) (ho : OwnS W' B v s') (h1 : SetL s') (h2 : TurnsAt E (Inn s')) :
    ∃ A' c', v = .slice A' s'.length c' ∧ StF W0 (W'.setCell ⟨b, 5, none⟩ v) b x E s' A' c' := by
  have hbx : FcBx W' b (factD x s) (.slice A s.length c) := h.box.next hb
  have hsv := ownS_sv ho
  obtain ⟨A', c', rfl, _⟩ := id hsv
  have hnil : A' = none → s'.length = 0 ∧ c' = 0 := fun e => by
    rcases ho.2 with ⟨e1, e2⟩ | ⟨g, cap, cur, e1, _⟩
    · injection e1 with e3 e4 e5
      exact ⟨e4, e5⟩
    · injection e1 with e3
      rw [e] at e3
      cases e3
  refine ⟨A', c', rfl, ⟨(h.below.trans (hb.mono h.below.size)).setCell (p := ⟨b, 5, none⟩) h0 _, ?_, ?_, hnil, h1, h2⟩⟩
  · exact (heap_setCell_same _ _ _ _ _ _ hbx).trans (by simp [factD])
  · refine hsv.off (row := some b) ⟨rfl, rfl, rfl, by simp, fun k _ hk => Below.heap_setCell W' ⟨b, 5, none⟩ _ k (fun e => hk (by rw [e]))⟩ (fun r er cs fr hcs => ?_)
    cases er
    unfold FcBx at hbx
    rw [hbx] at hcs
    injection hcs with hcs
    injection hcs with _ ht
    exact absurd ht (by decide)
/-- what the document's Fold answers -/
def FoldRE (w : World) (l : List Dat) (e : Ending) (w' : World) : Prop := (∃ v ec, e = .returned (.tuple #[v, .int .i64 ec]) ∧ ((ec = 60 ∧ v = .slice none 0 0 ∧ ¬ TogL l) ∨ (ec = 0 ∧ TogL l ∧ ∃ ps, OwnF w' w.heap.size v ps ∧ ps.map (·.1) = foldRs l l))) ∧ Below w.heap.size w w'
set_option maxRecDepth 100000 in
set_option maxHeartbeats 8000000 in
theorem foldRd_any (A : Option Addr) (c B : Nat) (l : List Dat) (w : World) (hs : SlD w B A l) (hB : B ≤ w.heap.size) (hl : l.length ≤ 400) (hsz : ∀ d ∈ l, d.s.size ≤ maxLen) :
    Calls Tryz.prog 6 #[.slice A l.length c] w (FoldRE w l) := by
  have HS := Lib.hid hs
  have HBW := Lib.hid hB
  have HSZ := Lib.hid hsz
  have HTG := Lib.hid (togR_any A c B l w hs hB (by omega) (fun i x hx => hsz x (List.mem_of_getElem? hx)))
  clear hs hB hsz
  go_enter Tryz.func6, Tryz.ntmps6
  go_wp2_with fail
  refine HTG.out.mono ?_
  rintro e w1 ⟨bt, rfl, hiff, hb1⟩
  have HB1 := Lib.hid hb1
  have HTL := Lib.hid hiff
  clear hb1 hiff HTG
  cases bt with
  | false =>
    have HF : Hid (FoldRE w l (.returned (.tuple #[.slice none 0 0, .int .i64 60])) w1) := ⟨⟨_, _, rfl, .inl ⟨rfl, rfl, fun h => by have := HTL.out.2 h; cases this⟩⟩, HB1.out⟩
    go_wp2
    go_ret2
    exact HF.out
  | true =>
    have HTT : Hid (TogL l) := HTL.out.1 rfl
    go_wp2_with fail
    go_loopg [5, 6] l.length (fun g y z wr => ∃ (j : Nat) (ps : List (FactP × Value)), z = .int .i64 j ∧ j + g = l.length ∧ Hid (OwnF wr w.heap.size y ps) ∧ Hid (ps.map (·.1) = foldRs l (l.take j)) ∧ Hid (ps.length ≤ j) ∧ Hid (∀ p ∈ ps, p.1.s.size ≤ maxLen) ∧ Hid (Below w.heap.size w wr))
    case atStart => exact ⟨0, [], rfl, by omega, ownF_nil _ _, rfl, Nat.le_refl _, (fun _ h => by cases h), HB1.out⟩
    case round =>
      obtain ⟨j, ps, rfl, hj, HO, HPS, HPL, HPZ, HB⟩ := hrel
      cases gk with
      | zero =>
        have hjz : ¬ ((j : Int) < (l.length : Int)) := by omega
        have hjz' : decide ((j : Int) < (l.length : Int)) = false := decide_eq_false hjz
        have HF : Hid (∀ y, OwnF wr w.heap.size y ps → FoldRE w l (.returned (.tuple #[y, .int .i64 0])) wr) := fun y hy => ⟨⟨_, _, rfl, .inr ⟨rfl, HTT.out, ps, hy, by rw [HPS.out, List.take_of_length_le (by omega)]⟩⟩, HB.out⟩
        go_wp2
        go_ret2
        exact HF.out _ HO.out
      | succ gk =>
        have hjz : ((j : Int) < (l.length : Int)) := by omega
        have hjz' : decide ((j : Int) < (l.length : Int)) = true := decide_eq_true hjz
        have hj0 : (0 : Int) ≤ (j : Int) := by omega
        have hjn : j < l.length := by omega
        obtain ⟨ob, oo, rfl, hob, hat⟩ := HS.out.at_ hjn
        obtain ⟨x, hx⟩ : ∃ x, l[j] = x := ⟨_, rfl⟩
        have hp : l[j]? = some x := by rw [List.getElem?_eq_getElem hjn, hx]
        rw [hx] at hat
        have HX : Hid (∀ X, Below wr.heap.size wr X → DtAt X ob (oo + j * 9) x) := fun X hX => hat.next (HB.out.trans (hX.mono HB.out.size)) (Nat.lt_of_lt_of_le hob HBW.out)
        have HSX : Hid (∀ X, Below wr.heap.size wr X → SlD X B (some ⟨ob, oo, none⟩) l) := fun X hX => HS.out.next (HB.out.trans (hX.mono HB.out.size)) HBW.out
        have HBX : Hid (∀ X, Below wr.heap.size wr X → B ≤ X.heap.size) := fun X hX => Nat.le_trans HBW.out (HB.out.trans (hX.mono HB.out.size)).size
        have HPX := Lib.hid hp
        have HXS : Hid (x.s.size ≤ maxLen) := HSZ.out x (List.mem_of_getElem? hp)
        clear hat hob hx hp
        -- the fact's box
        go_wp2_with fail
        have HS0 := Lib.hid (qd_dn (Below.refl wr.heap.size wr) 1)
        obtain ⟨wz, hwz⟩ : ∃ X, wr.drew = X := ⟨_, rfl⟩
        have HZS : Hid (wz.heap.size = wr.heap.size) := by show _ = _; rw [← hwz]; rfl
        refine wp_region_held_drew (S := fun X => Below wr.heap.size wr X) (by kernel_rfl) HS0.out (fun hHeld => ?_)
        rw [hwz] at hHeld ⊢
        clear hwz HS0
        refine takeQ 0 20 ((.slice (some ⟨ob, oo, none⟩) l.length c)) ?_
        simp only [Act.put, List.setIfInBounds_toArray, List.set_cons_zero, List.set_cons_succ]
        refine takeQ 1 21 ((.int .i64 (j : Nat))) ?_
        simp only [Act.put, List.setIfInBounds_toArray, List.set_cons_zero, List.set_cons_succ]
        refine takeQ 2 22 ((.pointer (some ⟨ob, oo + j * 9, none⟩))) ?_
        simp only [Act.put, List.setIfInBounds_toArray, List.set_cons_zero, List.set_cons_succ]
        refine takeQ 3 23 ((.pointer (some ⟨ob, oo + j * 9, none⟩))) ?_
        simp only [Act.put, List.setIfInBounds_toArray, List.set_cons_zero, List.set_cons_succ]
        refine takeQ 4 24 ((.int .i64 x.e)) ?_ (hy := by (intro _w hSw; have hq := HX.out _ hSw; have q0 := hq.c0; have q1 := hq.c1; have q2 := hq.c2; have q3 := hq.c3; have q4 := hq.c4; have q5 := hq.c5; have q6 := hq.c6; have q7 := hq.c7; have q8 := hq.c8; clear hSw; go_simp))
        simp only [Act.put, List.setIfInBounds_toArray, List.set_cons_zero, List.set_cons_succ]
        refine takeQ 5 25 ((.slice (some ⟨ob, oo, none⟩) l.length c)) ?_
        simp only [Act.put, List.setIfInBounds_toArray, List.set_cons_zero, List.set_cons_succ]
        refine takeQ 6 26 ((.int .i64 (j : Nat))) ?_
        simp only [Act.put, List.setIfInBounds_toArray, List.set_cons_zero, List.set_cons_succ]
        refine takeQ 7 27 ((.pointer (some ⟨ob, oo + j * 9, none⟩))) ?_
        simp only [Act.put, List.setIfInBounds_toArray, List.set_cons_zero, List.set_cons_succ]
        refine takeQ 8 28 ((.pointer (some ⟨ob, oo + j * 9 + 1, none⟩))) ?_
        simp only [Act.put, List.setIfInBounds_toArray, List.set_cons_zero, List.set_cons_succ]
        refine takeQ 9 29 ((.int .i64 x.a)) ?_ (hy := by (intro _w hSw; have hq := HX.out _ hSw; have q0 := hq.c0; have q1 := hq.c1; have q2 := hq.c2; have q3 := hq.c3; have q4 := hq.c4; have q5 := hq.c5; have q6 := hq.c6; have q7 := hq.c7; have q8 := hq.c8; clear hSw; go_simp))
        simp only [Act.put, List.setIfInBounds_toArray, List.set_cons_zero, List.set_cons_succ]
        refine takeQ 10 30 ((.slice (some ⟨ob, oo, none⟩) l.length c)) ?_
        simp only [Act.put, List.setIfInBounds_toArray, List.set_cons_zero, List.set_cons_succ]
        refine takeQ 11 31 ((.int .i64 (j : Nat))) ?_
        simp only [Act.put, List.setIfInBounds_toArray, List.set_cons_zero, List.set_cons_succ]
        refine takeQ 12 32 ((.pointer (some ⟨ob, oo + j * 9, none⟩))) ?_
        simp only [Act.put, List.setIfInBounds_toArray, List.set_cons_zero, List.set_cons_succ]
        refine takeQ 13 33 ((.pointer (some ⟨ob, oo + j * 9 + 2, none⟩))) ?_
        simp only [Act.put, List.setIfInBounds_toArray, List.set_cons_zero, List.set_cons_succ]
        refine takeQ 14 34 ((.agg #[.int .i64 x.k, .int .i64 x.m, .string x.s])) ?_ (hy := by (intro _w hSw; have hq := HX.out _ hSw; have q0 := hq.c0; have q1 := hq.c1; have q2 := hq.c2; have q3 := hq.c3; have q4 := hq.c4; have q5 := hq.c5; have q6 := hq.c6; have q7 := hq.c7; have q8 := hq.c8; clear hSw; go_simp))
        simp only [Act.put, List.setIfInBounds_toArray, List.set_cons_zero, List.set_cons_succ]
        refine takeQ 15 35 ((.agg #[.int .i64 x.e, .int .i64 x.a, .int .i64 x.k, .int .i64 x.m, .string x.s, .slice none 0 0])) ?_
        simp only [Act.put, List.setIfInBounds_toArray, List.set_cons_zero, List.set_cons_succ]
        refine callV 16 rfl (by kernel_rfl) (by rfl) (fun K hK => ?_)
        go_simp
        refine hK.out _ _ (hHeld.alloc hHeld.size _) (fun hHeld1 => ?_)
        clear hK K
        try simp only [Act.put, List.setIfInBounds_toArray, List.set_cons_zero, List.set_cons_succ]
        refine callV 17 rfl (by kernel_rfl) (by rfl) (fun K hK => ?_)
        go_simp
        refine hK.out _ _ (hHeld.alloc hHeld.size _) (fun hHeld2 => ?_)
        clear hK K hHeld hHeld1
        try simp only [Act.put, List.setIfInBounds_toArray, List.set_cons_zero, List.set_cons_succ]
        refine wpAnyH_done (by kernel_rfl) ?_ _
        have hbx : FcBx (wz.alloc (.cells #[.int .i64 x.e, .int .i64 x.a, .int .i64 x.k, .int .i64 x.m, .string x.s, .slice none 0 0] 67)) wz.heap.size (factD x []) (.slice none 0 0) := fcBx_new wz (factD x []) _
        obtain ⟨w5, hw5⟩ : ∃ X, wz.alloc (.cells #[.int .i64 x.e, .int .i64 x.a, .int .i64 x.k, .int .i64 x.m, .string x.s, .slice none 0 0] 67) = X := ⟨_, rfl⟩
        rw [hw5] at hbx hHeld2 ⊢
        clear hw5
        obtain ⟨b7, hb7⟩ : ∃ b7, wz.heap.size = b7 := ⟨_, rfl⟩
        have HB7 : Hid (wr.heap.size ≤ b7) := by show _ ≤ _; rw [← hb7, HZS.out]; exact Nat.le_refl _
        rw [hb7] at hbx ⊢
        clear hb7 HZS
        have HST5 : Hid (StF wr w5 b7 x (endsD l) [] none 0) := ⟨hHeld2, hbx, ⟨none, 0, rfl, fun h => absurd rfl h, Nat.le_refl _, Nat.zero_le _, fun h => absurd rfl h⟩, fun _ => ⟨rfl, rfl⟩, setL_nil, fun t _ => ⟨(fun ⟨_, h, _⟩ => by cases h), (fun ⟨_, h, _⟩ => by cases h)⟩⟩
        have hq := HX.out _ hHeld2
        have q0 := hq.c0
        have q1 := hq.c1
        have q2 := hq.c2
        have q3 := hq.c3
        have q4 := hq.c4
        have q5 := hq.c5
        have q6 := hq.c6
        have q7 := hq.c7
        have q8 := hq.c8
        have HNX := Lib.hid (next_any (some ⟨ob, oo, none⟩) c B l x 0 w5 (HSX.out _ hHeld2) (HBX.out _ hHeld2) (by omega))
        clear hq hHeld2 hbx
        go_wp2_with fail
        refine HNX.out.mono ?_
        rintro e w6 ⟨rfl, hb6⟩
        have HST6 := Lib.hid (HST5.out.next hb6)
        clear hb6 HNX HST5 q0 q1 q2 q3 q4 q5 q6 q7 q8
        go_wp2_with fail
        obtain ⟨wo, hwo⟩ : ∃ X, X = wr := ⟨_, rfl⟩
        subst hwo
        obtain ⟨gj, hgj⟩ : ∃ X, X = gk := ⟨_, rfl⟩
        subst hgj
        go_loopg [8, 9] l.length (fun gi y z wi => ∃ (n : Nat) (t : Int) (s : List Sp) (As : Option Addr) (cs : Nat), z = .int .i64 n ∧ y = .int .i64 t ∧ n + gi = l.length ∧ Hid (loopR l x gi t s = spR l x) ∧ Hid (StF wo wi b7 x (endsD l) s As cs))
        case atStart => exact ⟨0, nextL x 0 l, [], none, 0, rfl, rfl, by omega, rfl, HST6.out⟩
        case round =>
          obtain ⟨n, t, s, As, cs, rfl, rfl, hn, HLR, HST⟩ := hrel
          cases gk with
          | zero =>
            have hnz : ¬ ((n : Int) < (l.length : Int)) := by omega
            have hnz' : decide ((n : Int) < (l.length : Int)) = false := decide_eq_false hnz
            have HSP : Hid (spR l x = s) := HLR.out.symm.trans rfl
            have k5 := HST.out.box.k5
            have HTK := Lib.hid (foldRs_take l l HPX.out)
            rw [HSP.out] at HTK
            by_cases hs0 : s = []
            · subst hs0
              have HE : Hid (ps.map (·.1) = foldRs l (l.take (j + 1))) := by show _ = _; rw [HTK.out, if_pos rfl]; exact HPS.out
              have HPL2 : Hid (ps.length ≤ j + 1) := Nat.le_succ_of_le HPL.out
              have HOW := Lib.hid (HO.out.next HST.out.below)
              have HBO := Lib.hid (HB.out.trans (HST.out.below.mono HB.out.size))
              go_wp2
              go_roundg gj
              case measure => omega
              case rel => exact ⟨j + 1, ps, by go_num, by omega, HOW.out, HE.out, HPL2.out, HPZ.out, HBO.out⟩
            · have hsl : (0 : Int) < (s.length : Int) := by have := List.length_pos_iff.2 hs0; omega
              have hsl' : decide ((0 : Int) < (s.length : Int)) = true := decide_eq_true hsl
              have HE : Hid (foldRs l (l.take (j + 1)) = putR (ps.map (·.1)) (factD x s)) := by show _ = _; rw [HTK.out, if_neg hs0, HPS.out]
              have HPT := Lib.hid (putR_any w.heap.size _ ps (factD x s) (.slice As s.length cs) wr (HO.out.next HST.out.below) (HB.out.trans (HST.out.below.mono HB.out.size)).size HST.out.sv (by have := HPL.out; omega) HPZ.out HXS.out)
              have HBO := Lib.hid (HB.out.trans (HST.out.below.mono HB.out.size))
              have k0 := HST.out.box.k0
              have k1 := HST.out.box.k1
              have k2 := HST.out.box.k2
              have k3 := HST.out.box.k3
              have k4 := HST.out.box.k4
              clear hs0
              go_wp2_with fail
              refine HPT.out.mono ?_
              rintro e wp ⟨v9, ps9, rfl, ho9, hm9, hb9⟩
              have HO9 := Lib.hid ho9
              have HE9 : Hid (ps9.map (·.1) = foldRs l (l.take (j + 1))) := by show _ = _; rw [HE.out]; exact hm9
              have HL9 : Hid (ps9.length ≤ j + 1) := by
                show _ ≤ _
                have h1 := congrArg List.length hm9
                have h2 := putR_len (ps.map (·.1)) (factD x s)
                rw [List.length_map] at h1 h2
                have := HPL.out
                omega
              have HZ9 : Hid (∀ p ∈ ps9, p.1.s.size ≤ maxLen) := fun p hp => by
                have h1 : p.1 ∈ ps9.map (·.1) := List.mem_map.2 ⟨p, hp, rfl⟩
                rw [hm9] at h1
                rcases putR_mem h1 with h1 | h1
                · obtain ⟨q, hq, e⟩ := List.mem_map.1 h1
                  rw [← e]; exact HPZ.out q hq
                · rw [h1]; exact HXS.out
              have HB9 := Lib.hid (HBO.out.trans (hb9.mono HBO.out.size))
              clear ho9 hm9 hb9 k0 k1 k2 k3 k4 k5
              go_wp2
              go_roundg gj
              case measure => omega
              case rel => exact ⟨j + 1, ps9, by go_num, by omega, HO9.out, HE9.out, HL9.out, HZ9.out, HB9.out⟩
          | succ gk =>
            have hnz : ((n : Int) < (l.length : Int)) := by omega
            have hnz' : decide ((n : Int) < (l.length : Int)) = true := decide_eq_true hnz
            by_cases ht : ¬ 0 < t
            · have ht' : decide (0 < t) = false := decide_eq_false ht
              have HSP : Hid (spR l x = s) := HLR.out.symm.trans (by unfold loopR; rw [if_neg ht])
              have k5 := HST.out.box.k5
              have HTK := Lib.hid (foldRs_take l l HPX.out)
              rw [HSP.out] at HTK
              by_cases hs0 : s = []
              · subst hs0
                have HE : Hid (ps.map (·.1) = foldRs l (l.take (j + 1))) := by show _ = _; rw [HTK.out, if_pos rfl]; exact HPS.out
                have HPL2 : Hid (ps.length ≤ j + 1) := Nat.le_succ_of_le HPL.out
                have HOW := Lib.hid (HO.out.next HST.out.below)
                have HBO := Lib.hid (HB.out.trans (HST.out.below.mono HB.out.size))
                go_wp2
                go_roundg gj
                case measure => omega
                case rel => exact ⟨j + 1, ps, by go_num, by omega, HOW.out, HE.out, HPL2.out, HPZ.out, HBO.out⟩
              · have hsl : (0 : Int) < (s.length : Int) := by have := List.length_pos_iff.2 hs0; omega
                have hsl' : decide ((0 : Int) < (s.length : Int)) = true := decide_eq_true hsl
                have HE : Hid (foldRs l (l.take (j + 1)) = putR (ps.map (·.1)) (factD x s)) := by show _ = _; rw [HTK.out, if_neg hs0, HPS.out]
                have HPT := Lib.hid (putR_any w.heap.size _ ps (factD x s) (.slice As s.length cs) wr (HO.out.next HST.out.below) (HB.out.trans (HST.out.below.mono HB.out.size)).size HST.out.sv (by have := HPL.out; omega) HPZ.out HXS.out)
                have HBO := Lib.hid (HB.out.trans (HST.out.below.mono HB.out.size))
                have k0 := HST.out.box.k0
                have k1 := HST.out.box.k1
                have k2 := HST.out.box.k2
                have k3 := HST.out.box.k3
                have k4 := HST.out.box.k4
                clear hs0
                go_wp2_with fail
                refine HPT.out.mono ?_
                rintro e wp ⟨v9, ps9, rfl, ho9, hm9, hb9⟩
                have HO9 := Lib.hid ho9
                have HE9 : Hid (ps9.map (·.1) = foldRs l (l.take (j + 1))) := by show _ = _; rw [HE.out]; exact hm9
                have HL9 : Hid (ps9.length ≤ j + 1) := by
                  show _ ≤ _
                  have h1 := congrArg List.length hm9
                  have h2 := putR_len (ps.map (·.1)) (factD x s)
                  rw [List.length_map] at h1 h2
                  have := HPL.out
                  omega
                have HZ9 : Hid (∀ p ∈ ps9, p.1.s.size ≤ maxLen) := fun p hp => by
                  have h1 : p.1 ∈ ps9.map (·.1) := List.mem_map.2 ⟨p, hp, rfl⟩
                  rw [hm9] at h1
                  rcases putR_mem h1 with h1 | h1
                  · obtain ⟨q, hq, e⟩ := List.mem_map.1 h1
                    rw [← e]; exact HPZ.out q hq
                  · rw [h1]; exact HXS.out
                have HB9 := Lib.hid (HBO.out.trans (hb9.mono HBO.out.size))
                clear ho9 hm9 hb9 k0 k1 k2 k3 k4 k5
                go_wp2
                go_roundg gj
                case measure => omega
                case rel => exact ⟨j + 1, ps9, by go_num, by omega, HO9.out, HE9.out, HL9.out, HZ9.out, HB9.out⟩
            · have ht0 : 0 < t := Classical.not_not.1 ht
              have ht' : decide (0 < t) = true := decide_eq_true ht0
              have HLN : Hid (loopR l x gk (nextL x t l) (stepR l x t s) = spR l x) := by
                show _ = _
                rw [← HLR.out]
                show _ = loopR l x (gk + 1) t s
                rw [loopR, if_pos ht0]
              have HFEW : Hid (∀ q : List Sp, SetL q → TurnsAt (endsD l) (Inn q) → q.length ≤ 1000) := fun q h1 h2 => by
                have h3 := set_few2 h1 h2
                rw [endsD_len] at h3
                omega
              clear ht HLR
              obtain ⟨q1, hq1⟩ : ∃ q, saidL x t true l = q := ⟨_, rfl⟩
              obtain ⟨q2, hq2⟩ : ∃ q, saidL x t false l = q := ⟨_, rfl⟩
              have HQ1 : Hid (q1.length ≤ 1000 ∧ TurnsAt (endsD l) (Inn q1)) := by rw [← hq1]; exact ⟨by have := said_len l x t true; omega, said_turns l x t true⟩
              have HQ2 : Hid (q2.length ≤ 1000 ∧ TurnsAt (endsD l) (Inn q2)) := by rw [← hq2]; exact ⟨by have := said_len l x t false; omega, said_turns l x t false⟩
              have HSD1 := Lib.hid (fun X (hX : Below wo.heap.size wo X) => said_any (some ⟨ob, oo, none⟩) c B l x t true X (HSX.out X hX) (HBX.out X hX) (by omega))
              have HSD2 := Lib.hid (fun X (hX : Below wo.heap.size wo X) => said_any (some ⟨ob, oo, none⟩) c B l x t false X (HSX.out X hX) (HBX.out X hX) (by omega))
              have HSTP : Hid (stepR l x t s = notSp (orSp s q1) q2) := by show _ = _; rw [← hq1, ← hq2]; rfl
              rw [hq1] at HSD1
              rw [hq2] at HSD2
              rw [HSTP.out] at HLN
              obtain ⟨s1, hs1⟩ : ∃ q, orSp s q1 = q := ⟨_, rfl⟩
              have HS1 : Hid (SetL s1 ∧ TurnsAt (endsD l) (Inn s1)) := by
                rw [← hs1]
                have h := orSp_spec s q1
                exact ⟨h.1, (HST.out.turns.or HQ1.out.2).iff h.2⟩
              obtain ⟨s2, hs2⟩ : ∃ q, notSp s1 q2 = q := ⟨_, rfl⟩
              have HS2 : Hid (SetL s2 ∧ TurnsAt (endsD l) (Inn s2)) := by
                rw [← hs2]
                have h := notSp_spec s1 q2
                exact ⟨h.1, (HS1.out.2.and HQ2.out.2.not).iff h.2⟩
              have HE1 := Lib.hid hs1
              have HE2 := Lib.hid hs2
              rw [hs1, hs2] at HLN
              clear hq1 hq2 hs1 hs2 HSTP
              have k5 := HST.out.box.k5
              have HFS := Lib.hid (HFEW.out s HST.out.set HST.out.turns)
              go_wp2_with fail
              have HS0 := Lib.hid (qd_dn HST.out.below 1)
              obtain ⟨y0, hy0⟩ : ∃ X, wr.drew = X := ⟨_, rfl⟩
              have HST0 : Hid (StF wo y0 b7 x (endsD l) s As cs) := by rw [← hy0]; exact HST.out.next (qd_dn (Below.refl wr.heap.size wr) 1)
              refine wp_region_held_drew (S := fun X => Below wo.heap.size wo X) (by kernel_rfl) HS0.out (fun hHeld => ?_)
              rw [hy0] at hHeld ⊢
              clear hy0 HS0 k5
              refine takeQ 0 52 ((.pointer (some ⟨b7, 5, none⟩))) ?_
              simp only [Act.put, List.setIfInBounds_toArray, List.set_cons_zero, List.set_cons_succ]
              refine takeQ 2 54 ((.slice (some ⟨ob, oo, none⟩) l.length c)) ?_
              simp only [Act.put, List.setIfInBounds_toArray, List.set_cons_zero, List.set_cons_succ]
              refine takeQ 3 55 ((.slice (some ⟨ob, oo, none⟩) l.length c)) ?_
              simp only [Act.put, List.setIfInBounds_toArray, List.set_cons_zero, List.set_cons_succ]
              refine takeQ 4 56 ((.int .i64 (j : Nat))) ?_
              simp only [Act.put, List.setIfInBounds_toArray, List.set_cons_zero, List.set_cons_succ]
              refine takeQ 5 57 ((.pointer (some ⟨ob, oo + j * 9, none⟩))) ?_
              simp only [Act.put, List.setIfInBounds_toArray, List.set_cons_zero, List.set_cons_succ]
              refine takeQ 6 58 ((.agg #[.int .i64 x.e, .int .i64 x.a, .int .i64 x.k, .int .i64 x.m, .string x.s, .int .i64 x.t, .bool x.add, .int .i64 x.fr, .int .i64 x.til])) ?_ (hy := by (intro _w hSw; have hq := HX.out _ hSw; have q0 := hq.c0; have q1 := hq.c1; have q2 := hq.c2; have q3 := hq.c3; have q4 := hq.c4; have q5 := hq.c5; have q6 := hq.c6; have q7 := hq.c7; have q8 := hq.c8; clear hSw; go_simp))
              simp only [Act.put, List.setIfInBounds_toArray, List.set_cons_zero, List.set_cons_succ]
              refine takeQ 7 59 ((.int .i64 t)) ?_
              simp only [Act.put, List.setIfInBounds_toArray, List.set_cons_zero, List.set_cons_succ]
              refine callV2 1 8 rfl rfl (by kernel_rfl) (by rfl) (by rfl) (fun K hK => ?_) (fun K hK => ?_)
              · have k5 := HST0.out.box.k5
                go_simp
                refine hK.out _ _ hHeld (fun hHeld => ?_)
                clear hK K k5
                try simp only [Act.put, List.setIfInBounds_toArray, List.set_cons_zero, List.set_cons_succ]
                refine callV 8 rfl (by kernel_rfl) (by rfl) (fun K hK => ?_)
                go_simp
                refine (HSD1.out _ hHeld).mono ?_
                rintro e9 y1 ⟨v1, rfl, ho1, hb1⟩
                have HSTA := Lib.hid (HST0.out.next hb1)
                have HO1 := Lib.hid ho1
                obtain ⟨A1, c1, rfl, hsl1, _, _⟩ := ho1.sls
                have HSL1 := Lib.hid hsl1
                have HN1 : Hid (A1 = none → q1.length = 0 ∧ c1 = 0) := fun e => by
                  rcases HO1.out.2 with ⟨e1, e2⟩ | ⟨g, cap, cur, e1, _⟩
                  · injection e1 with e3 e4 e5
                    exact ⟨e4, e5⟩
                  · injection e1 with e3
                    rw [e] at e3
                    cases e3
                have g3 := hHeld.trans (hb1.mono hHeld.size)
                refine hK.out _ _ g3 (fun hHeld => ?_)
                clear hK g3 K hb1 ho1 hsl1
                try simp only [Act.put, List.setIfInBounds_toArray, List.set_cons_zero, List.set_cons_succ]
                refine callV 9 rfl (by kernel_rfl) (by rfl) (fun K hK => ?_)
                go_simp
                refine (ofOr_any As A1 cs c1 s q1 y1 HSTA.out.sl HSL1.out HSTA.out.nil HN1.out HFS.out HQ1.out.1).mono ?_
                rintro e9 y2 ⟨v2, rfl, ho2, hb2⟩
                obtain ⟨A2, c2, hv2, hst2⟩ := HSTA.out.put hb2 HB7.out (show OwnS y2 _ v2 s1 by rw [← HE1.out]; exact ho2) HS1.out.1 HS1.out.2
                subst hv2
                have HSTB1 := Lib.hid hst2
                have hst3 := HSTA.out.next hb2
                have cb := hst3.box.k5
                have fb : y2.frozen? ⟨b7, 5, none⟩ = false := by have := hst3.box; unfold FcBx at this; simp [World.frozen?, this]
                have g3 := hHeld.trans (hb2.mono hHeld.size)
                refine hK.out _ _ g3 (fun hHeld => ?_)
                clear hK g3 K hb2 ho2 hst2 hst3
                try simp only [Act.put, List.setIfInBounds_toArray, List.set_cons_zero, List.set_cons_succ]
                refine takeQ 10 62 ((.pointer (some ⟨b7, 5, none⟩))) ?_
                simp only [Act.put, List.setIfInBounds_toArray, List.set_cons_zero, List.set_cons_succ]
                refine callV 11 rfl (by kernel_rfl) (by rfl) (fun K hK => ?_)
                go_simp
                obtain ⟨y31, hy3⟩ : ∃ X, y2.setCell ⟨b7, 5, none⟩ (.slice A2 s1.length c2) = X := ⟨_, rfl⟩
                rw [hy3] at HSTB1 ⊢
                refine hK.out _ _ HSTB1.out.below (fun hHeld => ?_)
                clear hK K hy3 cb fb hHeld HSTA HO1 HSL1 HN1
                try simp only [Act.put, List.setIfInBounds_toArray, List.set_cons_zero, List.set_cons_succ]
                refine wpAnyH_done (by kernel_rfl) ?_ _
                obtain ⟨Aa, hAa⟩ : ∃ X, X = A2 := ⟨_, rfl⟩
                subst hAa
                obtain ⟨ca, hca⟩ : ∃ X, X = c2 := ⟨_, rfl⟩
                subst hca
                have k5 := HSTB1.out.box.k5
                have HFS := Lib.hid (HFEW.out s1 HSTB1.out.set HSTB1.out.turns)
                go_wp2_with fail
                have HS0 := Lib.hid (qd_dn HSTB1.out.below 1)
                obtain ⟨y0, hy0⟩ : ∃ X, y31.drew = X := ⟨_, rfl⟩
                have HST0 : Hid (StF wo y0 b7 x (endsD l) s1 Aa ca) := by rw [← hy0]; exact HSTB1.out.next (qd_dn (Below.refl y31.heap.size y31) 1)
                refine wp_region_held_drew (S := fun X => Below wo.heap.size wo X) (by kernel_rfl) HS0.out (fun hHeld => ?_)
                rw [hy0] at hHeld ⊢
                clear hy0 HS0 k5
                refine takeQ 0 63 ((.pointer (some ⟨b7, 5, none⟩))) ?_
                simp only [Act.put, List.setIfInBounds_toArray, List.set_cons_zero, List.set_cons_succ]
                refine takeQ 2 65 ((.slice (some ⟨ob, oo, none⟩) l.length c)) ?_
                simp only [Act.put, List.setIfInBounds_toArray, List.set_cons_zero, List.set_cons_succ]
                refine takeQ 3 66 ((.slice (some ⟨ob, oo, none⟩) l.length c)) ?_
                simp only [Act.put, List.setIfInBounds_toArray, List.set_cons_zero, List.set_cons_succ]
                refine takeQ 4 67 ((.int .i64 (j : Nat))) ?_
                simp only [Act.put, List.setIfInBounds_toArray, List.set_cons_zero, List.set_cons_succ]
                refine takeQ 5 68 ((.pointer (some ⟨ob, oo + j * 9, none⟩))) ?_
                simp only [Act.put, List.setIfInBounds_toArray, List.set_cons_zero, List.set_cons_succ]
                refine takeQ 6 69 ((.agg #[.int .i64 x.e, .int .i64 x.a, .int .i64 x.k, .int .i64 x.m, .string x.s, .int .i64 x.t, .bool x.add, .int .i64 x.fr, .int .i64 x.til])) ?_ (hy := by (intro _w hSw; have hq := HX.out _ hSw; have q0 := hq.c0; have q1 := hq.c1; have q2 := hq.c2; have q3 := hq.c3; have q4 := hq.c4; have q5 := hq.c5; have q6 := hq.c6; have q7 := hq.c7; have q8 := hq.c8; clear hSw; go_simp))
                simp only [Act.put, List.setIfInBounds_toArray, List.set_cons_zero, List.set_cons_succ]
                refine takeQ 7 70 ((.int .i64 t)) ?_
                simp only [Act.put, List.setIfInBounds_toArray, List.set_cons_zero, List.set_cons_succ]
                refine callV2 1 8 rfl rfl (by kernel_rfl) (by rfl) (by rfl) (fun K hK => ?_) (fun K hK => ?_)
                · have k5 := HST0.out.box.k5
                  go_simp
                  refine hK.out _ _ hHeld (fun hHeld => ?_)
                  clear hK K k5
                  try simp only [Act.put, List.setIfInBounds_toArray, List.set_cons_zero, List.set_cons_succ]
                  refine callV 8 rfl (by kernel_rfl) (by rfl) (fun K hK => ?_)
                  go_simp
                  refine (HSD2.out _ hHeld).mono ?_
                  rintro e9 y1 ⟨v1, rfl, ho1, hb1⟩
                  have HSTA := Lib.hid (HST0.out.next hb1)
                  have HO1 := Lib.hid ho1
                  obtain ⟨A1, c1, rfl, hsl1, _, _⟩ := ho1.sls
                  have HSL1 := Lib.hid hsl1
                  have HN1 : Hid (A1 = none → q2.length = 0 ∧ c1 = 0) := fun e => by
                    rcases HO1.out.2 with ⟨e1, e2⟩ | ⟨g, cap, cur, e1, _⟩
                    · injection e1 with e3 e4 e5
                      exact ⟨e4, e5⟩
                    · injection e1 with e3
                      rw [e] at e3
                      cases e3
                  have g3 := hHeld.trans (hb1.mono hHeld.size)
                  refine hK.out _ _ g3 (fun hHeld => ?_)
                  clear hK g3 K hb1 ho1 hsl1
                  try simp only [Act.put, List.setIfInBounds_toArray, List.set_cons_zero, List.set_cons_succ]
                  refine callV 9 rfl (by kernel_rfl) (by rfl) (fun K hK => ?_)
                  go_simp
                  refine (ofNot_any Aa A1 ca c1 s1 q2 y1 HSTA.out.sl HSL1.out HSTA.out.nil HN1.out HFS.out HQ2.out.1).mono ?_
                  rintro e9 y2 ⟨v2, rfl, ho2, hb2⟩
                  obtain ⟨A2, c2, hv2, hst2⟩ := HSTA.out.put hb2 HB7.out (show OwnS y2 _ v2 s2 by rw [← HE2.out]; exact ho2) HS2.out.1 HS2.out.2
                  subst hv2
                  have HSTB2 := Lib.hid hst2
                  have hst3 := HSTA.out.next hb2
                  have cb := hst3.box.k5
                  have fb : y2.frozen? ⟨b7, 5, none⟩ = false := by have := hst3.box; unfold FcBx at this; simp [World.frozen?, this]
                  have g3 := hHeld.trans (hb2.mono hHeld.size)
                  refine hK.out _ _ g3 (fun hHeld => ?_)
                  clear hK g3 K hb2 ho2 hst2 hst3
                  try simp only [Act.put, List.setIfInBounds_toArray, List.set_cons_zero, List.set_cons_succ]
                  refine takeQ 10 73 ((.pointer (some ⟨b7, 5, none⟩))) ?_
                  simp only [Act.put, List.setIfInBounds_toArray, List.set_cons_zero, List.set_cons_succ]
                  refine callV 11 rfl (by kernel_rfl) (by rfl) (fun K hK => ?_)
                  go_simp
                  obtain ⟨y32, hy3⟩ : ∃ X, y2.setCell ⟨b7, 5, none⟩ (.slice A2 s2.length c2) = X := ⟨_, rfl⟩
                  rw [hy3] at HSTB2 ⊢
                  refine hK.out _ _ HSTB2.out.below (fun hHeld => ?_)
                  clear hK K hy3 cb fb hHeld HSTA HO1 HSL1 HN1
                  try simp only [Act.put, List.setIfInBounds_toArray, List.set_cons_zero, List.set_cons_succ]
                  refine wpAnyH_done (by kernel_rfl) ?_ _
                  have hq := HX.out _ HSTB2.out.below
                  have q0 := hq.c0
                  have q1' := hq.c1
                  have q2' := hq.c2
                  have q3 := hq.c3
                  have q4 := hq.c4
                  have q5 := hq.c5
                  have q6 := hq.c6
                  have q7 := hq.c7
                  have q8 := hq.c8
                  have HNX := Lib.hid (next_any (some ⟨ob, oo, none⟩) c B l x t y32 (HSX.out _ HSTB2.out.below) (HBX.out _ HSTB2.out.below) (by omega))
                  clear hq
                  go_wp2_with fail
                  refine HNX.out.mono ?_
                  rintro e y5 ⟨rfl, hb5⟩
                  have HST5 := Lib.hid (HSTB2.out.next hb5)
                  clear hb5 HNX q0 q1' q2' q3 q4 q5 q6 q7 q8
                  go_wp2
                  go_roundg gk
                  case measure => omega
                  case rel => exact ⟨n + 1, nextL x t l, s2, A2, c2, by go_num, rfl, by omega, HLN.out, HST5.out⟩
                · go_simp
                  refine (HSD2.out _ hHeld).mono ?_
                  rintro e9 y1 ⟨v1, rfl, ho1, hb1⟩
                  have HSTA := Lib.hid (HST0.out.next hb1)
                  have HO1 := Lib.hid ho1
                  obtain ⟨A1, c1, rfl, hsl1, _, _⟩ := ho1.sls
                  have HSL1 := Lib.hid hsl1
                  have HN1 : Hid (A1 = none → q2.length = 0 ∧ c1 = 0) := fun e => by
                    rcases HO1.out.2 with ⟨e1, e2⟩ | ⟨g, cap, cur, e1, _⟩
                    · injection e1 with e3 e4 e5
                      exact ⟨e4, e5⟩
                    · injection e1 with e3
                      rw [e] at e3
                      cases e3
                  have g3 := hHeld.trans (hb1.mono hHeld.size)
                  refine hK.out _ _ g3 (fun hHeld => ?_)
                  clear hK g3 K hb1 ho1 hsl1
                  try simp only [Act.put, List.setIfInBounds_toArray, List.set_cons_zero, List.set_cons_succ]
                  refine callV 1 rfl (by kernel_rfl) (by rfl) (fun K hK => ?_)
                  have k5 := HSTA.out.box.k5
                  go_simp
                  refine hK.out _ _ hHeld (fun hHeld => ?_)
                  clear hK K k5
                  try simp only [Act.put, List.setIfInBounds_toArray, List.set_cons_zero, List.set_cons_succ]
                  refine callV 9 rfl (by kernel_rfl) (by rfl) (fun K hK => ?_)
                  go_simp
                  refine (ofNot_any Aa A1 ca c1 s1 q2 y1 HSTA.out.sl HSL1.out HSTA.out.nil HN1.out HFS.out HQ2.out.1).mono ?_
                  rintro e9 y2 ⟨v2, rfl, ho2, hb2⟩
                  obtain ⟨A2, c2, hv2, hst2⟩ := HSTA.out.put hb2 HB7.out (show OwnS y2 _ v2 s2 by rw [← HE2.out]; exact ho2) HS2.out.1 HS2.out.2
                  subst hv2
                  have HSTB2 := Lib.hid hst2
                  have hst3 := HSTA.out.next hb2
                  have cb := hst3.box.k5
                  have fb : y2.frozen? ⟨b7, 5, none⟩ = false := by have := hst3.box; unfold FcBx at this; simp [World.frozen?, this]
                  have g3 := hHeld.trans (hb2.mono hHeld.size)
                  refine hK.out _ _ g3 (fun hHeld => ?_)
                  clear hK g3 K hb2 ho2 hst2 hst3
                  try simp only [Act.put, List.setIfInBounds_toArray, List.set_cons_zero, List.set_cons_succ]
                  refine takeQ 10 73 ((.pointer (some ⟨b7, 5, none⟩))) ?_
                  simp only [Act.put, List.setIfInBounds_toArray, List.set_cons_zero, List.set_cons_succ]
                  refine callV 11 rfl (by kernel_rfl) (by rfl) (fun K hK => ?_)
                  go_simp
                  obtain ⟨y32, hy3⟩ : ∃ X, y2.setCell ⟨b7, 5, none⟩ (.slice A2 s2.length c2) = X := ⟨_, rfl⟩
                  rw [hy3] at HSTB2 ⊢
                  refine hK.out _ _ HSTB2.out.below (fun hHeld => ?_)
                  clear hK K hy3 cb fb hHeld HSTA HO1 HSL1 HN1
                  try simp only [Act.put, List.setIfInBounds_toArray, List.set_cons_zero, List.set_cons_succ]
                  refine wpAnyH_done (by kernel_rfl) ?_ _
                  have hq := HX.out _ HSTB2.out.below
                  have q0 := hq.c0
                  have q1' := hq.c1
                  have q2' := hq.c2
                  have q3 := hq.c3
                  have q4 := hq.c4
                  have q5 := hq.c5
                  have q6 := hq.c6
                  have q7 := hq.c7
                  have q8 := hq.c8
                  have HNX := Lib.hid (next_any (some ⟨ob, oo, none⟩) c B l x t y32 (HSX.out _ HSTB2.out.below) (HBX.out _ HSTB2.out.below) (by omega))
                  clear hq
                  go_wp2_with fail
                  refine HNX.out.mono ?_
                  rintro e y5 ⟨rfl, hb5⟩
                  have HST5 := Lib.hid (HSTB2.out.next hb5)
                  clear hb5 HNX q0 q1' q2' q3 q4 q5 q6 q7 q8
                  go_wp2
                  go_roundg gk
                  case measure => omega
                  case rel => exact ⟨n + 1, nextL x t l, s2, A2, c2, by go_num, rfl, by omega, HLN.out, HST5.out⟩
              · go_simp
                refine (HSD1.out _ hHeld).mono ?_
                rintro e9 y1 ⟨v1, rfl, ho1, hb1⟩
                have HSTA := Lib.hid (HST0.out.next hb1)
                have HO1 := Lib.hid ho1
                obtain ⟨A1, c1, rfl, hsl1, _, _⟩ := ho1.sls
                have HSL1 := Lib.hid hsl1
                have HN1 : Hid (A1 = none → q1.length = 0 ∧ c1 = 0) := fun e => by
                  rcases HO1.out.2 with ⟨e1, e2⟩ | ⟨g, cap, cur, e1, _⟩
                  · injection e1 with e3 e4 e5
                    exact ⟨e4, e5⟩
                  · injection e1 with e3
                    rw [e] at e3
                    cases e3
                have g3 := hHeld.trans (hb1.mono hHeld.size)
                refine hK.out _ _ g3 (fun hHeld => ?_)
                clear hK g3 K hb1 ho1 hsl1
                try simp only [Act.put, List.setIfInBounds_toArray, List.set_cons_zero, List.set_cons_succ]
                refine callV 1 rfl (by kernel_rfl) (by rfl) (fun K hK => ?_)
                have k5 := HSTA.out.box.k5
                go_simp
                refine hK.out _ _ hHeld (fun hHeld => ?_)
                clear hK K k5
                try simp only [Act.put, List.setIfInBounds_toArray, List.set_cons_zero, List.set_cons_succ]
                refine callV 9 rfl (by kernel_rfl) (by rfl) (fun K hK => ?_)
                go_simp
                refine (ofOr_any As A1 cs c1 s q1 y1 HSTA.out.sl HSL1.out HSTA.out.nil HN1.out HFS.out HQ1.out.1).mono ?_
                rintro e9 y2 ⟨v2, rfl, ho2, hb2⟩
                obtain ⟨A2, c2, hv2, hst2⟩ := HSTA.out.put hb2 HB7.out (show OwnS y2 _ v2 s1 by rw [← HE1.out]; exact ho2) HS1.out.1 HS1.out.2
                subst hv2
                have HSTB1 := Lib.hid hst2
                have hst3 := HSTA.out.next hb2
                have cb := hst3.box.k5
                have fb : y2.frozen? ⟨b7, 5, none⟩ = false := by have := hst3.box; unfold FcBx at this; simp [World.frozen?, this]
                have g3 := hHeld.trans (hb2.mono hHeld.size)
                refine hK.out _ _ g3 (fun hHeld => ?_)
                clear hK g3 K hb2 ho2 hst2 hst3
                try simp only [Act.put, List.setIfInBounds_toArray, List.set_cons_zero, List.set_cons_succ]
                refine takeQ 10 62 ((.pointer (some ⟨b7, 5, none⟩))) ?_
                simp only [Act.put, List.setIfInBounds_toArray, List.set_cons_zero, List.set_cons_succ]
                refine callV 11 rfl (by kernel_rfl) (by rfl) (fun K hK => ?_)
                go_simp
                obtain ⟨y31, hy3⟩ : ∃ X, y2.setCell ⟨b7, 5, none⟩ (.slice A2 s1.length c2) = X := ⟨_, rfl⟩
                rw [hy3] at HSTB1 ⊢
                refine hK.out _ _ HSTB1.out.below (fun hHeld => ?_)
                clear hK K hy3 cb fb hHeld HSTA HO1 HSL1 HN1
                try simp only [Act.put, List.setIfInBounds_toArray, List.set_cons_zero, List.set_cons_succ]
                refine wpAnyH_done (by kernel_rfl) ?_ _
                obtain ⟨Aa, hAa⟩ : ∃ X, X = A2 := ⟨_, rfl⟩
                subst hAa
                obtain ⟨ca, hca⟩ : ∃ X, X = c2 := ⟨_, rfl⟩
                subst hca
                have k5 := HSTB1.out.box.k5
                have HFS := Lib.hid (HFEW.out s1 HSTB1.out.set HSTB1.out.turns)
                go_wp2_with fail
                have HS0 := Lib.hid (qd_dn HSTB1.out.below 1)
                obtain ⟨y0, hy0⟩ : ∃ X, y31.drew = X := ⟨_, rfl⟩
                have HST0 : Hid (StF wo y0 b7 x (endsD l) s1 Aa ca) := by rw [← hy0]; exact HSTB1.out.next (qd_dn (Below.refl y31.heap.size y31) 1)
                refine wp_region_held_drew (S := fun X => Below wo.heap.size wo X) (by kernel_rfl) HS0.out (fun hHeld => ?_)
                rw [hy0] at hHeld ⊢
                clear hy0 HS0 k5
                refine takeQ 0 63 ((.pointer (some ⟨b7, 5, none⟩))) ?_
                simp only [Act.put, List.setIfInBounds_toArray, List.set_cons_zero, List.set_cons_succ]
                refine takeQ 2 65 ((.slice (some ⟨ob, oo, none⟩) l.length c)) ?_
                simp only [Act.put, List.setIfInBounds_toArray, List.set_cons_zero, List.set_cons_succ]
                refine takeQ 3 66 ((.slice (some ⟨ob, oo, none⟩) l.length c)) ?_
                simp only [Act.put, List.setIfInBounds_toArray, List.set_cons_zero, List.set_cons_succ]
                refine takeQ 4 67 ((.int .i64 (j : Nat))) ?_
                simp only [Act.put, List.setIfInBounds_toArray, List.set_cons_zero, List.set_cons_succ]
                refine takeQ 5 68 ((.pointer (some ⟨ob, oo + j * 9, none⟩))) ?_
                simp only [Act.put, List.setIfInBounds_toArray, List.set_cons_zero, List.set_cons_succ]
                refine takeQ 6 69 ((.agg #[.int .i64 x.e, .int .i64 x.a, .int .i64 x.k, .int .i64 x.m, .string x.s, .int .i64 x.t, .bool x.add, .int .i64 x.fr, .int .i64 x.til])) ?_ (hy := by (intro _w hSw; have hq := HX.out _ hSw; have q0 := hq.c0; have q1 := hq.c1; have q2 := hq.c2; have q3 := hq.c3; have q4 := hq.c4; have q5 := hq.c5; have q6 := hq.c6; have q7 := hq.c7; have q8 := hq.c8; clear hSw; go_simp))
                simp only [Act.put, List.setIfInBounds_toArray, List.set_cons_zero, List.set_cons_succ]
                refine takeQ 7 70 ((.int .i64 t)) ?_
                simp only [Act.put, List.setIfInBounds_toArray, List.set_cons_zero, List.set_cons_succ]
                refine callV2 1 8 rfl rfl (by kernel_rfl) (by rfl) (by rfl) (fun K hK => ?_) (fun K hK => ?_)
                · have k5 := HST0.out.box.k5
                  go_simp
                  refine hK.out _ _ hHeld (fun hHeld => ?_)
                  clear hK K k5
                  try simp only [Act.put, List.setIfInBounds_toArray, List.set_cons_zero, List.set_cons_succ]
                  refine callV 8 rfl (by kernel_rfl) (by rfl) (fun K hK => ?_)
                  go_simp
                  refine (HSD2.out _ hHeld).mono ?_
                  rintro e9 y1 ⟨v1, rfl, ho1, hb1⟩
                  have HSTA := Lib.hid (HST0.out.next hb1)
                  have HO1 := Lib.hid ho1
                  obtain ⟨A1, c1, rfl, hsl1, _, _⟩ := ho1.sls
                  have HSL1 := Lib.hid hsl1
                  have HN1 : Hid (A1 = none → q2.length = 0 ∧ c1 = 0) := fun e => by
                    rcases HO1.out.2 with ⟨e1, e2⟩ | ⟨g, cap, cur, e1, _⟩
                    · injection e1 with e3 e4 e5
                      exact ⟨e4, e5⟩
                    · injection e1 with e3
                      rw [e] at e3
                      cases e3
                  have g3 := hHeld.trans (hb1.mono hHeld.size)
                  refine hK.out _ _ g3 (fun hHeld => ?_)
                  clear hK g3 K hb1 ho1 hsl1
                  try simp only [Act.put, List.setIfInBounds_toArray, List.set_cons_zero, List.set_cons_succ]
                  refine callV 9 rfl (by kernel_rfl) (by rfl) (fun K hK => ?_)
                  go_simp
                  refine (ofNot_any Aa A1 ca c1 s1 q2 y1 HSTA.out.sl HSL1.out HSTA.out.nil HN1.out HFS.out HQ2.out.1).mono ?_
                  rintro e9 y2 ⟨v2, rfl, ho2, hb2⟩
                  obtain ⟨A2, c2, hv2, hst2⟩ := HSTA.out.put hb2 HB7.out (show OwnS y2 _ v2 s2 by rw [← HE2.out]; exact ho2) HS2.out.1 HS2.out.2
                  subst hv2
                  have HSTB2 := Lib.hid hst2
                  have hst3 := HSTA.out.next hb2
                  have cb := hst3.box.k5
                  have fb : y2.frozen? ⟨b7, 5, none⟩ = false := by have := hst3.box; unfold FcBx at this; simp [World.frozen?, this]
                  have g3 := hHeld.trans (hb2.mono hHeld.size)
                  refine hK.out _ _ g3 (fun hHeld => ?_)
                  clear hK g3 K hb2 ho2 hst2 hst3
                  try simp only [Act.put, List.setIfInBounds_toArray, List.set_cons_zero, List.set_cons_succ]
                  refine takeQ 10 73 ((.pointer (some ⟨b7, 5, none⟩))) ?_
                  simp only [Act.put, List.setIfInBounds_toArray, List.set_cons_zero, List.set_cons_succ]
                  refine callV 11 rfl (by kernel_rfl) (by rfl) (fun K hK => ?_)
                  go_simp
                  obtain ⟨y32, hy3⟩ : ∃ X, y2.setCell ⟨b7, 5, none⟩ (.slice A2 s2.length c2) = X := ⟨_, rfl⟩
                  rw [hy3] at HSTB2 ⊢
                  refine hK.out _ _ HSTB2.out.below (fun hHeld => ?_)
                  clear hK K hy3 cb fb hHeld HSTA HO1 HSL1 HN1
                  try simp only [Act.put, List.setIfInBounds_toArray, List.set_cons_zero, List.set_cons_succ]
                  refine wpAnyH_done (by kernel_rfl) ?_ _
                  have hq := HX.out _ HSTB2.out.below
                  have q0 := hq.c0
                  have q1' := hq.c1
                  have q2' := hq.c2
                  have q3 := hq.c3
                  have q4 := hq.c4
                  have q5 := hq.c5
                  have q6 := hq.c6
                  have q7 := hq.c7
                  have q8 := hq.c8
                  have HNX := Lib.hid (next_any (some ⟨ob, oo, none⟩) c B l x t y32 (HSX.out _ HSTB2.out.below) (HBX.out _ HSTB2.out.below) (by omega))
                  clear hq
                  go_wp2_with fail
                  refine HNX.out.mono ?_
                  rintro e y5 ⟨rfl, hb5⟩
                  have HST5 := Lib.hid (HSTB2.out.next hb5)
                  clear hb5 HNX q0 q1' q2' q3 q4 q5 q6 q7 q8
                  go_wp2
                  go_roundg gk
                  case measure => omega
                  case rel => exact ⟨n + 1, nextL x t l, s2, A2, c2, by go_num, rfl, by omega, HLN.out, HST5.out⟩
                · go_simp
                  refine (HSD2.out _ hHeld).mono ?_
                  rintro e9 y1 ⟨v1, rfl, ho1, hb1⟩
                  have HSTA := Lib.hid (HST0.out.next hb1)
                  have HO1 := Lib.hid ho1
                  obtain ⟨A1, c1, rfl, hsl1, _, _⟩ := ho1.sls
                  have HSL1 := Lib.hid hsl1
                  have HN1 : Hid (A1 = none → q2.length = 0 ∧ c1 = 0) := fun e => by
                    rcases HO1.out.2 with ⟨e1, e2⟩ | ⟨g, cap, cur, e1, _⟩
                    · injection e1 with e3 e4 e5
                      exact ⟨e4, e5⟩
                    · injection e1 with e3
                      rw [e] at e3
                      cases e3
                  have g3 := hHeld.trans (hb1.mono hHeld.size)
                  refine hK.out _ _ g3 (fun hHeld => ?_)
                  clear hK g3 K hb1 ho1 hsl1
                  try simp only [Act.put, List.setIfInBounds_toArray, List.set_cons_zero, List.set_cons_succ]
                  refine callV 1 rfl (by kernel_rfl) (by rfl) (fun K hK => ?_)
                  have k5 := HSTA.out.box.k5
                  go_simp
                  refine hK.out _ _ hHeld (fun hHeld => ?_)
                  clear hK K k5
                  try simp only [Act.put, List.setIfInBounds_toArray, List.set_cons_zero, List.set_cons_succ]
                  refine callV 9 rfl (by kernel_rfl) (by rfl) (fun K hK => ?_)
                  go_simp
                  refine (ofNot_any Aa A1 ca c1 s1 q2 y1 HSTA.out.sl HSL1.out HSTA.out.nil HN1.out HFS.out HQ2.out.1).mono ?_
                  rintro e9 y2 ⟨v2, rfl, ho2, hb2⟩
                  obtain ⟨A2, c2, hv2, hst2⟩ := HSTA.out.put hb2 HB7.out (show OwnS y2 _ v2 s2 by rw [← HE2.out]; exact ho2) HS2.out.1 HS2.out.2
                  subst hv2
                  have HSTB2 := Lib.hid hst2
                  have hst3 := HSTA.out.next hb2
                  have cb := hst3.box.k5
                  have fb : y2.frozen? ⟨b7, 5, none⟩ = false := by have := hst3.box; unfold FcBx at this; simp [World.frozen?, this]
                  have g3 := hHeld.trans (hb2.mono hHeld.size)
                  refine hK.out _ _ g3 (fun hHeld => ?_)
                  clear hK g3 K hb2 ho2 hst2 hst3
                  try simp only [Act.put, List.setIfInBounds_toArray, List.set_cons_zero, List.set_cons_succ]
                  refine takeQ 10 73 ((.pointer (some ⟨b7, 5, none⟩))) ?_
                  simp only [Act.put, List.setIfInBounds_toArray, List.set_cons_zero, List.set_cons_succ]
                  refine callV 11 rfl (by kernel_rfl) (by rfl) (fun K hK => ?_)
                  go_simp
                  obtain ⟨y32, hy3⟩ : ∃ X, y2.setCell ⟨b7, 5, none⟩ (.slice A2 s2.length c2) = X := ⟨_, rfl⟩
                  rw [hy3] at HSTB2 ⊢
                  refine hK.out _ _ HSTB2.out.below (fun hHeld => ?_)
                  clear hK K hy3 cb fb hHeld HSTA HO1 HSL1 HN1
                  try simp only [Act.put, List.setIfInBounds_toArray, List.set_cons_zero, List.set_cons_succ]
                  refine wpAnyH_done (by kernel_rfl) ?_ _
                  have hq := HX.out _ HSTB2.out.below
                  have q0 := hq.c0
                  have q1' := hq.c1
                  have q2' := hq.c2
                  have q3 := hq.c3
                  have q4 := hq.c4
                  have q5 := hq.c5
                  have q6 := hq.c6
                  have q7 := hq.c7
                  have q8 := hq.c8
                  have HNX := Lib.hid (next_any (some ⟨ob, oo, none⟩) c B l x t y32 (HSX.out _ HSTB2.out.below) (HBX.out _ HSTB2.out.below) (by omega))
                  clear hq
                  go_wp2_with fail
                  refine HNX.out.mono ?_
                  rintro e y5 ⟨rfl, hb5⟩
                  have HST5 := Lib.hid (HSTB2.out.next hb5)
                  clear hb5 HNX q0 q1' q2' q3 q4 q5 q6 q7 q8
                  go_wp2
                  go_roundg gk
                  case measure => omega
                  case rel => exact ⟨n + 1, nextL x t l, s2, A2, c2, by go_num, rfl, by omega, HLN.out, HST5.out⟩
end Go.Proofs.YthdjlaombbeagaaGreat
