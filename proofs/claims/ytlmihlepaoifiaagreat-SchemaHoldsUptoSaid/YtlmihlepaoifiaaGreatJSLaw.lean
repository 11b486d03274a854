import Derived.Test.YtlmihlepaoifiaaGreatJFTurn
import Derived.Test.YtlmihlepaoifiaaGreatJSRefSet
import Derived.Laws.StructEq
import Derived.Deep.Draws
import Derived.Test.YtlmihlepaoifiaaGreatJSCov
import Derived.Test.YtlmihlepaoifiaaGreatJSLeaf
import Derived.Test.YtlmihlepaoifiaaGreatJOArgs
/-
  CONTRACT of the document's own answer: Of, what both have.
-/
namespace Go.Proofs.YtlmihlepaoifiaaGreat
open Go.RowKit

set_option maxRecDepth 100000 in
set_option maxHeartbeats 2000000 in
theorem ofAnd_any (A A' : Option Addr) (c c' : Nat) (a b : List Sp) (w : World) (hs : SlS w w.heap.size A a) (hs' : SlS w w.heap.size A' b) (hA : A = none → a.length = 0 ∧ c = 0) (hA' : A' = none → b.length = 0 ∧ c' = 0) (hla : a.length ≤ 1000) (hlb : b.length ≤ 1000) :
    Calls Tryz.prog 42 #[.slice A a.length c, .slice A' b.length c', .int .i64 1] w fun e w' => ∃ v, e = .returned v ∧ OwnS w' w.heap.size v (ofL andF a b [] (endsL (a ++ b))) ∧ Below w.heap.size w w' := by
  have HSA := Lib.hid hs
  have HSB := Lib.hid hs'
  have HNA := Lib.hid hA
  have HNB := Lib.hid hA'
  obtain ⟨i0, hi, hz0, hz1, hz2⟩ := info_parts info92
  have hmx : 50000 ≤ maxLen := by decide
  have HL0 := Lib.hid (ownS_nil w w.heap.size)
  have HNW1 : Hid (∀ ad, A = some ad → ∀ j u, (a.flatMap cellsS)[j]? = some u → w.cell? (ad.add j) = some u) := fun ad h j u hu => hs.news ad h j u hu
  have tok1 : True := trivial
  clear hs hs' hA hA'
  go_enter Tryz.func42, Tryz.ntmps42
  go_wp2_with (first | (at_builtin; have _t := tok1; refine wpList_append_any rfl _ _ 29 rfl w.heap.size 68 i0 (.agg #[.int .i64 0, .int .i64 0]) 2 16 Tryz.underlying29 hi hz0 hz1 hz2 rfl (by decide) _ _ _ rfl HL0.out A a.length c (a.flatMap cellsS) rfl (flatS_len a) HNA.out HNW1.out (cellsS_all a) (by simp; omega) (by simp; omega) (Nat.le_refl _) ?_; intro v1 w1 hown' hgrow; have HV1 : Hid (OwnS w1 w.heap.size v1 a) := ownS_of (a := []) hown'; have HB1 := Lib.hid (below_ownS HL0.out hgrow (Nat.le_refl _)); have HNW2 : Hid (∀ ad, A' = some ad → ∀ j u, (b.flatMap cellsS)[j]? = some u → w1.cell? (ad.add j) = some u) := (fun ad h j u hu => (HSB.out.next HB1.out (Nat.le_refl _)).news ad h j u hu); clear tok1 hown' hgrow) | (at_builtin; refine wpList_append_any rfl _ _ 29 rfl w.heap.size 68 i0 (.agg #[.int .i64 0, .int .i64 0]) 2 16 Tryz.underlying29 hi hz0 hz1 hz2 rfl (by decide) _ _ _ rfl HV1.out A' b.length c' (b.flatMap cellsS) rfl (flatS_len b) HNB.out HNW2.out (cellsS_all b) (by omega) (by omega) HB1.out.size ?_; intro v2 w2 hown' hgrow; have HV2 : Hid (OwnS w2 w.heap.size v2 (a ++ b)) := ownS_of hown'; have HB2 := Lib.hid (HB1.out.trans (below_ownS HV1.out hgrow HB1.out.size)); clear hown' hgrow; obtain ⟨A2, c2, rfl, hs2, hl2, hc2⟩ := HV2.out.sls))
  have hE2 := ends_any A2 c2 (a ++ b) w2 hs2 (by rw [List.length_append]; omega)
  rw [List.length_append] at hE2
  refine hE2.mono ?_
  rintro e w3 ⟨v3, rfl, hown3, hb3⟩
  have HB3 := Lib.hid (HB2.out.trans (hb3.mono HB2.out.size))
  clear hE2
  obtain ⟨es, hes⟩ : ∃ es, endsL (a ++ b) = es := ⟨_, rfl⟩
  have hel : es.length ≤ 4000 := by
    have := endsL_len (a ++ b)
    rw [hes, List.length_append] at this
    omega
  have HRS : Hid (Rises es) := by show Rises _; rw [← hes]; exact endsL_rises _
  rw [hes] at hown3
  have HES := Lib.hid hes
  clear hes
  have HA3 := Lib.hid (HSA.out.next HB3.out (Nat.le_refl _))
  have HBB3 := Lib.hid (HSB.out.next HB3.out (Nat.le_refl _))
  have hsz3 : w.heap.size ≤ w3.heap.size := HB3.out.size
  rcases hown3.form with ⟨rfl, rfl⟩ | ⟨ge, ec, rfl, hle, hcm, hge, hgs, hcell⟩
  · clear hown3 hb3 hs2
    go_wp2_with fail
    go_loopw [9, 10] (fun o z wq => ∃ m : Nat, o = .slice none 0 0 ∧ z = .int .i64 0 ∧ wq = w3.drewN m) (fun _ _ _ => 0)
    case atStart => exact ⟨0, rfl, rfl, rfl⟩
    case round =>
      obtain ⟨m, rfl, rfl, rfl⟩ := hrel
      go_wp2
      go_ret
      exact ⟨_, rfl, by rw [HES.out]; exact ownS_nil _ _, below_ind HB3.out _⟩
  · have HC := Lib.hid hcell
    clear hcell hown3 hb3 hs2
    go_wp2_with fail
    go_loopg [9, 10] (es.length - 1) (fun g v x wr => ∃ (j : Nat) (acc : List Sp), x = .int .i64 j ∧ j + g = es.length - 1 ∧ Hid (OwnS wr w3.heap.size v acc) ∧ Hid (ofL andF a b acc (es.drop j) = ofL andF a b [] es) ∧ Hid (∀ q ∈ acc, ∀ t, es[j]? = some t → q.2 ≤ t) ∧ acc.length ≤ j ∧ Hid (Below w3.heap.size w3 wr))
    case atStart => exact ⟨0, [], rfl, by omega, ownS_nil _ _, rfl, (fun q hq => by cases hq), Nat.zero_le _, Below.refl _ _⟩
    case round =>
      obtain ⟨j, acc, rfl, hj, HO, HE, HQ, hac, HB⟩ := hrel
      have hszr := HB.out.size
      cases gk with
      | zero =>
        have hjz : ¬ ((j : Int) + 1 < (es.length : Int)) := by omega
        have HF : Hid (ofL andF a b acc (es.drop j) = acc) := by
          show _ = _
          rcases (by omega : es.length = j ∨ es.length = j + 1) with h | h
          · rw [List.drop_eq_nil_of_le (by omega)]; rfl
          · rw [List.drop_eq_getElem_cons (by omega), List.drop_eq_nil_of_le (by omega)]; rfl
        go_wp2
        go_ret
        exact ⟨_, rfl, by rw [HES.out, ← HE.out, HF.out]; exact OwnS.low HO.out hsz3, HB3.out.trans (HB.out.mono hsz3)⟩
      | succ g =>
        have hjz : (j : Int) + 1 < (es.length : Int) := by omega
        have hji : (j : Int) < (es.length : Int) := by omega
        obtain ⟨t, ht⟩ : ∃ t, es[j]? = some t := ⟨_, List.getElem?_eq_getElem (by omega)⟩
        obtain ⟨u, hu⟩ : ∃ u, es[j + 1]? = some u := ⟨_, List.getElem?_eq_getElem (by omega)⟩
        have hDR : es.drop j = t :: u :: es.drop (j + 2) := by
          have h1 := (List.getElem?_eq_some_iff.1 ht)
          have h2 := (List.getElem?_eq_some_iff.1 hu)
          obtain ⟨h1, rfl⟩ := h1
          obtain ⟨h2, rfl⟩ := h2
          rw [List.drop_eq_getElem_cons h1, List.drop_eq_getElem_cons h2]
        have HTU : Hid (t < u) := by
          have h9 : Rises (t :: u :: es.drop (j + 2)) := by rw [← hDR]; exact HRS.out.sublist (List.drop_sublist _ _)
          exact (List.pairwise_cons.1 h9).1 u (by simp)
        have d0 : wr.cell? ⟨ge, j, none⟩ = some (.int .i64 t) := (HB.out.cell (p := ⟨ge, j, none⟩) hgs).trans (HC.out j t ht)
        have d1 : wr.cell? ⟨ge, j + 1, none⟩ = some (.int .i64 u) := (HB.out.cell (p := ⟨ge, j + 1, none⟩) hgs).trans (HC.out _ u hu)
        have HST : Hid (ofL andF a b acc (es.drop j) = ofL andF a b (if andF (innB a t) (innB b t) = true then addL acc (t, u) else acc) (es.drop (j + 1))) := by
          show _ = _
          rw [hDR]
          have h2 : es.drop (j + 1) = u :: es.drop (j + 2) := by
            have h8 := congrArg (List.drop 1) hDR
            rw [List.drop_drop] at h8
            exact h8
          rw [h2]
          rfl
        have HTT := Lib.hid ht
        have HUU := Lib.hid hu
        clear ht hu hDR
        have HAr := Lib.hid (HA3.out.next HB.out hsz3)
        have HBr := Lib.hid (HBB3.out.next HB.out hsz3)
        go_wp2_with fail
        refine (refIn_any A c a t wr w.heap.size HAr.out (by omega)).mono ?_
        rintro e wq ⟨rfl, n1, rfl⟩
        go_wp2_with fail
        refine (refIn_any A' c' b t _ w.heap.size (HBr.out.drewN n1) (by omega)).mono ?_
        rintro e wq ⟨rfl, n2, rfl⟩
        obtain ⟨xa, hxa⟩ : ∃ xa, innB a t = xa := ⟨_, rfl⟩
        obtain ⟨xb, hxb⟩ : ∃ xb, innB b t = xb := ⟨_, rfl⟩
        rw [hxa, hxb] at HST
        rw [hxa, hxb]
        clear hxa hxb
        rcases xa with _ | _ <;> rcases xb with _ | _
        · have HST2 : Hid (ofL andF a b acc (es.drop j) = ofL andF a b acc (es.drop (j + 1))) := by
            have h9 := HST.out
            rw [if_neg (by decide)] at h9
            exact h9
          go_wp2
          go_roundg g
          case measure => omega
          case rel => exact ⟨j + 1, acc, by go_num, by omega, HO.out.drewN _, by show _ = _; rw [← HE.out, HST2.out], (fun q hq z hz => by have h1 := HQ.out q hq t HTT.out; have h2 := HTU.out; rw [HUU.out] at hz; cases hz; omega), by omega, below_ind HB.out _⟩
        · have HST2 : Hid (ofL andF a b acc (es.drop j) = ofL andF a b acc (es.drop (j + 1))) := by
            have h9 := HST.out
            rw [if_neg (by decide)] at h9
            exact h9
          go_wp2
          go_roundg g
          case measure => omega
          case rel => exact ⟨j + 1, acc, by go_num, by omega, HO.out.drewN _, by show _ = _; rw [← HE.out, HST2.out], (fun q hq z hz => by have h1 := HQ.out q hq t HTT.out; have h2 := HTU.out; rw [HUU.out] at hz; cases hz; omega), by omega, below_ind HB.out _⟩
        · have HST2 : Hid (ofL andF a b acc (es.drop j) = ofL andF a b acc (es.drop (j + 1))) := by
            have h9 := HST.out
            rw [if_neg (by decide)] at h9
            exact h9
          go_wp2
          go_roundg g
          case measure => omega
          case rel => exact ⟨j + 1, acc, by go_num, by omega, HO.out.drewN _, by show _ = _; rw [← HE.out, HST2.out], (fun q hq z hz => by have h1 := HQ.out q hq t HTT.out; have h2 := HTU.out; rw [HUU.out] at hz; cases hz; omega), by omega, below_ind HB.out _⟩
        · have HST2 : Hid (ofL andF a b acc (es.drop j) = ofL andF a b (addL acc (t, u)) (es.drop (j + 1))) := by
            have h9 := HST.out
            rw [if_pos (by decide)] at h9
            exact h9
          rcases List.eq_nil_or_concat acc with rfl | ⟨r, p, rfl⟩
          · obtain ⟨A9, c9, rfl, _, _, _⟩ := HO.out.sls
            have HADD : Hid (addL [] (t, u) = [] ++ [(t, u)]) := rfl
            have HQ2 : Hid (∀ q ∈ ([] : List Sp) ++ [(t, u)], q.2 ≤ u) := fun q hq => by
              rw [List.nil_append, List.mem_singleton] at hq
              subst hq
              exact Int.le_refl _
            simp only [List.length_nil] at hac
            go_wp2
            go_big_quiet (fail)
            go_wp2
            obtain ⟨W5, hW5⟩ : ∃ W5, (wr.drewN (n1 + n2)).drewN nq = W5 := ⟨_, rfl⟩
            have HO5 : Hid (OwnS W5 w3.heap.size (.slice A9 0 c9) []) := by rw [← hW5]; exact (HO.out.drewN _).drewN _
            have HB5 : Hid (Below w3.heap.size w3 W5) := by rw [← hW5]; exact below_ind (below_ind HB.out _) _
            have HS5 : Hid (SEnd ge j t u W5) := by rw [← hW5]; exact ⟨d0, d1⟩
            rw [hW5]
            clear hW5 d0 d1
            have hwj : IntKind.i64.wrap ((j : Int) + 1) = (j : Int) + 1 := IntWalk.i64_in _ (by omega)
            have hj0 : ¬ ((j : Int) + 1 < 0) := by omega
            refine wp_region_held_drew (S := SEnd ge j t u) (by kernel_rfl) HS5.out (fun hHeld => ?_)
            refine takeV 0 (some 100) ((.slice A9 0 c9)) rfl rfl (by kernel_rfl) (by kernel_rfl) (by kernel_rfl) (fun _ _ _ h => h) (by rfl) (by (intro _w _hSw; (try dsimp only at _hSw); go_simp)) (by assumption) ?_
            simp only [Act.put, List.setIfInBounds_toArray, List.set_cons_zero, List.set_cons_succ]
            refine takeV 1 (some 101) ((.slice (some ⟨ge, 0, none⟩) es.length ec)) rfl rfl (by kernel_rfl) (by kernel_rfl) (by kernel_rfl) (fun _ _ _ h => h) (by rfl) (by (intro _w _hSw; (try dsimp only at _hSw); go_simp)) (by assumption) ?_
            simp only [Act.put, List.setIfInBounds_toArray, List.set_cons_zero, List.set_cons_succ]
            refine takeV 2 (some 102) ((.int .i64 (j : Int))) rfl rfl (by kernel_rfl) (by kernel_rfl) (by kernel_rfl) (fun _ _ _ h => h) (by rfl) (by (intro _w _hSw; (try dsimp only at _hSw); go_simp)) (by assumption) ?_
            simp only [Act.put, List.setIfInBounds_toArray, List.set_cons_zero, List.set_cons_succ]
            refine takeV 3 (some 103) ((.pointer (some ⟨ge, j, none⟩))) rfl rfl (by kernel_rfl) (by kernel_rfl) (by kernel_rfl) (fun _ _ _ h => h) (by rfl) (by (intro _w _hSw; (try dsimp only at _hSw); go_simp)) (by assumption) ?_
            simp only [Act.put, List.setIfInBounds_toArray, List.set_cons_zero, List.set_cons_succ]
            refine takeV 4 (some 104) ((.int .i64 t)) rfl rfl (by kernel_rfl) (by kernel_rfl) (by kernel_rfl) (fun _ _ _ h => h) (by rfl) (by (intro _w hSw; have q0 := hSw.1; clear hSw; go_simp)) (by assumption) ?_
            simp only [Act.put, List.setIfInBounds_toArray, List.set_cons_zero, List.set_cons_succ]
            refine takeV 5 (some 105) ((.slice (some ⟨ge, 0, none⟩) es.length ec)) rfl rfl (by kernel_rfl) (by kernel_rfl) (by kernel_rfl) (fun _ _ _ h => h) (by rfl) (by (intro _w _hSw; (try dsimp only at _hSw); go_simp)) (by assumption) ?_
            simp only [Act.put, List.setIfInBounds_toArray, List.set_cons_zero, List.set_cons_succ]
            refine takeV 6 (some 106) ((.int .i64 (j : Int))) rfl rfl (by kernel_rfl) (by kernel_rfl) (by kernel_rfl) (fun _ _ _ h => h) (by rfl) (by (intro _w _hSw; (try dsimp only at _hSw); go_simp)) (by assumption) ?_
            simp only [Act.put, List.setIfInBounds_toArray, List.set_cons_zero, List.set_cons_succ]
            refine takeV 7 (some 107) ((.int .i64 ((j : Int) + 1))) rfl rfl (by kernel_rfl) (by kernel_rfl) (by kernel_rfl) (fun _ _ _ h => h) (by rfl) (by (intro _w _hSw; (try dsimp only at _hSw); go_simp)) (by assumption) ?_
            simp only [Act.put, List.setIfInBounds_toArray, List.set_cons_zero, List.set_cons_succ]
            refine takeV 8 (some 108) ((.pointer (some ⟨ge, j + 1, none⟩))) rfl rfl (by kernel_rfl) (by kernel_rfl) (by kernel_rfl) (fun _ _ _ h => h) (by rfl) (by (intro _w _hSw; (try dsimp only at _hSw); go_simp)) (by assumption) ?_
            simp only [Act.put, List.setIfInBounds_toArray, List.set_cons_zero, List.set_cons_succ]
            refine takeV 9 (some 109) ((.int .i64 u)) rfl rfl (by kernel_rfl) (by kernel_rfl) (by kernel_rfl) (fun _ _ _ h => h) (by rfl) (by (intro _w hSw; have q0 := hSw.2; clear hSw; go_simp)) (by assumption) ?_
            simp only [Act.put, List.setIfInBounds_toArray, List.set_cons_zero, List.set_cons_succ]
            refine takeV 10 (some 110) ((.agg #[.int .i64 t, .int .i64 u])) rfl rfl (by kernel_rfl) (by kernel_rfl) (by kernel_rfl) (fun _ _ _ h => h) (by rfl) (by (intro _w _hSw; (try dsimp only at _hSw); go_simp)) (by assumption) ?_
            simp only [Act.put, List.setIfInBounds_toArray, List.set_cons_zero, List.set_cons_succ]
            refine callV 11 rfl (by kernel_rfl) (by rfl) (fun K hK => ?_)
            go_simp
            refine hK.out _ _ (SEnd.next (W := W5) (W' := W5.alloc (.cells #[.int .i64 t, .int .i64 u] 68)) hHeld ((Below.refl w3.heap.size W5).alloc HB5.out.size _) hgs) (fun hHeld2 => ?_)
            clear hK K hHeld
            try simp only [Act.put, List.setIfInBounds_toArray, List.set_cons_zero, List.set_cons_succ]
            refine callV 12 rfl (by kernel_rfl) (by rfl) (fun K hK => ?_)
            refine wp_append_own _ _ _ 29 rfl w3.heap.size 68 i0 (.agg #[.int .i64 0, .int .i64 0]) 2 16 Tryz.underlying29 hi hz0 hz1 hz2 rfl (by decide) (.slice A9 0 c9) (0) _ rfl (OwnS.row (OwnS.alloc (W := W5) HO5.out (.cells #[.int .i64 t, .int .i64 u] 68)) rfl) ⟨W5.heap.size, 0, none⟩ 1 1 (cellsS (t, u)) rfl rfl (fun j u h => cell_litS _ _ _ j u h) (cellsS_one _) (by omega) (by omega) (by show w3.heap.size ≤ (World.alloc _ _).heap.size; have := HB5.out.size; simp; omega) ?_
            intro v' w4 hown' hgrow _
            obtain ⟨g', cap', rfl⟩ := ownsRow_succ hown'
            have hb4 : Below w3.heap.size W5 w4 := Below.trans (b := (W5.alloc (.cells #[.int .i64 t, .int .i64 u] 68)).drew) (below_ind ((Below.refl w3.heap.size W5).alloc HB5.out.size _) 1) (below_ownS (W := (W5.alloc _).drew) (OwnS.alloc (W := W5) HO5.out (.cells #[.int .i64 t, .int .i64 u] 68)) hgrow (by have := HB5.out.size; simp; omega))
            have HF := Lib.hid (show OwnS w4 w3.heap.size (.slice (some ⟨g', 0, none⟩) (0 + 1) cap') ([] ++ [(t, u)]) from ownS_snoc' rfl hown')
            have HB4 := Lib.hid (HB5.out.trans hb4)
            have hS4 := SEnd.next HS5.out hb4 hgs
            clear hown' hgrow hb4
            refine hK.out _ _ hS4 (fun hHeld4 => ?_)
            clear hK K hHeld2
            try simp only [Act.put, List.setIfInBounds_toArray]
            refine takeV 13 (some 9) (.slice (some ⟨g', 0, none⟩) (0 + 1) cap') rfl rfl (by kernel_rfl) (by kernel_rfl) (by kernel_rfl) (fun _ _ _ h => h) (by rfl) (by (intro _w _hSw; (try dsimp only at _hSw); go_simp)) (by assumption) ?_
            simp only [Act.put]
            refine wpAnyH_done (by kernel_rfl) ?_ _
            go_wp2
            go_roundg g
            case measure => omega
            case rel => exact ⟨j + 1, [] ++ [(t, u)], by go_num, by omega, HF.out, by show _ = _; rw [← HE.out, HST2.out, HADD.out], (fun q hq z hz => by rw [HUU.out] at hz; cases hz; exact HQ2.out q hq), by simp <;> omega, HB4.out⟩
          · rw [List.concat_eq_append] at HO HE HQ HST2 hac
            have HLEN : Hid ((r ++ [p]).length = r.length + 1) := by show _ = _; rw [List.length_append]; rfl
            have hor := OwnS.row HO.out HLEN.out
            obtain ⟨g9, cap, rfl⟩ := ownsRow_succ hor
            have cl : wr.cell? ⟨g9, r.length * 2 + 1, none⟩ = some (.int .i64 p.2) := by
              rw [hor.cellAt (r.length * 2 + 1) (by omega), flatS (by omega)]
              simp [cellsS]
            have fz : wr.frozen? ⟨g9, r.length * 2 + 1, none⟩ = false := hor.frozenAt _
            have hn0 : (0 : Int) < (r.length : Int) + 1 := by omega
            have hdn : decide ((0 : Int) < (r.length : Int) + 1) = true := decide_eq_true hn0
            have hr0 : (0 : Int) ≤ (r.length : Int) := by omega
            have hnl : ¬ ((r.length : Int) + 1 ≤ (r.length : Int)) := by omega
            have hrl : r.length + 1 ≤ j := by rw [HLEN.out] at hac; exact hac
            have HOR := Lib.hid hor
            have hpl := HQ.out p (by simp) t HTT.out
            clear hor hac
            by_cases hpt : p.2 = t
            · have HADD : Hid (addL (r ++ [p]) (t, u) = r ++ [(p.1, u)]) := by
                show _ = _
                rw [addL_snoc, if_pos (by simp only; omega)]
                have := HTU.out
                simp only
                rw [show max p.2 u = u from by omega]
              have HQ2 : Hid (∀ q ∈ r ++ [(p.1, u)], q.2 ≤ u) := fun q hq => by
                rcases List.mem_append.1 hq with h | h
                · have h1 := HQ.out q (by simp [h]) t HTT.out
                  have h2 := HTU.out
                  omega
                · rw [List.mem_singleton] at h
                  subst h
                  exact Int.le_refl _
              have hde : (p.2 == t) = true := by rw [hpt]; exact beq_self_eq_true t
              clear hpl
              go_wp2
              go_big_quiet (fail)
              have hst := (show World.ownsRow (wr.drewN (n1 + n2 + nq)) _ _ _ _ _ _ from HOR.out).stored (r.length * 2 + 1) (.int .i64 u)
              have HF : Hid (OwnS ((wr.drewN (n1 + n2 + nq)).setCell ⟨g9, r.length * 2 + 1, none⟩ (.int .i64 u)) w3.heap.size (.slice (some ⟨g9, 0, none⟩) (r.length + 1) cap) (r ++ [(p.1, u)])) := by
                have h9 := hst.1
                rw [flatS_set] at h9
                show World.ownsRow _ _ _ _ _ _ _
                rw [List.length_append]
                exact h9
              have HB4 := Lib.hid ((below_ind HB.out (n1 + n2 + nq)).trans (below_ownS (l := r ++ [p]) (show OwnS (wr.drewN (n1 + n2 + nq)) _ _ _ from HO.out) hst.2 hszr))
              clear hst
              go_wp2
              go_roundg g
              case measure => omega
              case rel => exact ⟨j + 1, r ++ [(p.1, u)], by go_num, by omega, HF.out, by show _ = _; rw [← HE.out, HST2.out, HADD.out], (fun q hq z hz => by rw [HUU.out] at hz; cases hz; exact HQ2.out q hq), by simp <;> omega, HB4.out⟩
            · have HADD : Hid (addL (r ++ [p]) (t, u) = (r ++ [p]) ++ [(t, u)]) := by
                show _ = _
                rw [addL_snoc, if_neg (by simp only; omega)]
              have HQ2 : Hid (∀ q ∈ (r ++ [p]) ++ [(t, u)], q.2 ≤ u) := fun q hq => by
                rcases List.mem_append.1 hq with h | h
                · have h1 := HQ.out q h t HTT.out
                  have h2 := HTU.out
                  omega
                · rw [List.mem_singleton] at h
                  subst h
                  exact Int.le_refl _
              have hde : (p.2 == t) = false := beq_eq_false_iff_ne.2 hpt
              clear hpl
              go_wp2
              go_big_quiet (fail)
              go_wp2
              clear cl fz
              obtain ⟨W5, hW5⟩ : ∃ W5, (wr.drewN (n1 + n2)).drewN nq = W5 := ⟨_, rfl⟩
              have HO5 : Hid (OwnS W5 w3.heap.size (.slice (some ⟨g9, 0, none⟩) (r.length + 1) cap) (r ++ [p])) := by rw [← hW5]; exact (HO.out.drewN _).drewN _
              have HB5 : Hid (Below w3.heap.size w3 W5) := by rw [← hW5]; exact below_ind (below_ind HB.out _) _
              have HS5 : Hid (SEnd ge j t u W5) := by rw [← hW5]; exact ⟨d0, d1⟩
              rw [hW5]
              clear hW5 d0 d1
              have hwj : IntKind.i64.wrap ((j : Int) + 1) = (j : Int) + 1 := IntWalk.i64_in _ (by omega)
              have hj0 : ¬ ((j : Int) + 1 < 0) := by omega
              refine wp_region_held_drew (S := SEnd ge j t u) (by kernel_rfl) HS5.out (fun hHeld => ?_)
              refine takeV 0 (some 100) ((.slice (some ⟨g9, 0, none⟩) (r.length + 1) cap)) rfl rfl (by kernel_rfl) (by kernel_rfl) (by kernel_rfl) (fun _ _ _ h => h) (by rfl) (by (intro _w _hSw; (try dsimp only at _hSw); go_simp)) (by assumption) ?_
              simp only [Act.put, List.setIfInBounds_toArray, List.set_cons_zero, List.set_cons_succ]
              refine takeV 1 (some 101) ((.slice (some ⟨ge, 0, none⟩) es.length ec)) rfl rfl (by kernel_rfl) (by kernel_rfl) (by kernel_rfl) (fun _ _ _ h => h) (by rfl) (by (intro _w _hSw; (try dsimp only at _hSw); go_simp)) (by assumption) ?_
              simp only [Act.put, List.setIfInBounds_toArray, List.set_cons_zero, List.set_cons_succ]
              refine takeV 2 (some 102) ((.int .i64 (j : Int))) rfl rfl (by kernel_rfl) (by kernel_rfl) (by kernel_rfl) (fun _ _ _ h => h) (by rfl) (by (intro _w _hSw; (try dsimp only at _hSw); go_simp)) (by assumption) ?_
              simp only [Act.put, List.setIfInBounds_toArray, List.set_cons_zero, List.set_cons_succ]
              refine takeV 3 (some 103) ((.pointer (some ⟨ge, j, none⟩))) rfl rfl (by kernel_rfl) (by kernel_rfl) (by kernel_rfl) (fun _ _ _ h => h) (by rfl) (by (intro _w _hSw; (try dsimp only at _hSw); go_simp)) (by assumption) ?_
              simp only [Act.put, List.setIfInBounds_toArray, List.set_cons_zero, List.set_cons_succ]
              refine takeV 4 (some 104) ((.int .i64 t)) rfl rfl (by kernel_rfl) (by kernel_rfl) (by kernel_rfl) (fun _ _ _ h => h) (by rfl) (by (intro _w hSw; have q0 := hSw.1; clear hSw; go_simp)) (by assumption) ?_
              simp only [Act.put, List.setIfInBounds_toArray, List.set_cons_zero, List.set_cons_succ]
              refine takeV 5 (some 105) ((.slice (some ⟨ge, 0, none⟩) es.length ec)) rfl rfl (by kernel_rfl) (by kernel_rfl) (by kernel_rfl) (fun _ _ _ h => h) (by rfl) (by (intro _w _hSw; (try dsimp only at _hSw); go_simp)) (by assumption) ?_
              simp only [Act.put, List.setIfInBounds_toArray, List.set_cons_zero, List.set_cons_succ]
              refine takeV 6 (some 106) ((.int .i64 (j : Int))) rfl rfl (by kernel_rfl) (by kernel_rfl) (by kernel_rfl) (fun _ _ _ h => h) (by rfl) (by (intro _w _hSw; (try dsimp only at _hSw); go_simp)) (by assumption) ?_
              simp only [Act.put, List.setIfInBounds_toArray, List.set_cons_zero, List.set_cons_succ]
              refine takeV 7 (some 107) ((.int .i64 ((j : Int) + 1))) rfl rfl (by kernel_rfl) (by kernel_rfl) (by kernel_rfl) (fun _ _ _ h => h) (by rfl) (by (intro _w _hSw; (try dsimp only at _hSw); go_simp)) (by assumption) ?_
              simp only [Act.put, List.setIfInBounds_toArray, List.set_cons_zero, List.set_cons_succ]
              refine takeV 8 (some 108) ((.pointer (some ⟨ge, j + 1, none⟩))) rfl rfl (by kernel_rfl) (by kernel_rfl) (by kernel_rfl) (fun _ _ _ h => h) (by rfl) (by (intro _w _hSw; (try dsimp only at _hSw); go_simp)) (by assumption) ?_
              simp only [Act.put, List.setIfInBounds_toArray, List.set_cons_zero, List.set_cons_succ]
              refine takeV 9 (some 109) ((.int .i64 u)) rfl rfl (by kernel_rfl) (by kernel_rfl) (by kernel_rfl) (fun _ _ _ h => h) (by rfl) (by (intro _w hSw; have q0 := hSw.2; clear hSw; go_simp)) (by assumption) ?_
              simp only [Act.put, List.setIfInBounds_toArray, List.set_cons_zero, List.set_cons_succ]
              refine takeV 10 (some 110) ((.agg #[.int .i64 t, .int .i64 u])) rfl rfl (by kernel_rfl) (by kernel_rfl) (by kernel_rfl) (fun _ _ _ h => h) (by rfl) (by (intro _w _hSw; (try dsimp only at _hSw); go_simp)) (by assumption) ?_
              simp only [Act.put, List.setIfInBounds_toArray, List.set_cons_zero, List.set_cons_succ]
              refine callV 11 rfl (by kernel_rfl) (by rfl) (fun K hK => ?_)
              go_simp
              refine hK.out _ _ (SEnd.next (W := W5) (W' := W5.alloc (.cells #[.int .i64 t, .int .i64 u] 68)) hHeld ((Below.refl w3.heap.size W5).alloc HB5.out.size _) hgs) (fun hHeld2 => ?_)
              clear hK K hHeld
              try simp only [Act.put, List.setIfInBounds_toArray, List.set_cons_zero, List.set_cons_succ]
              refine callV 12 rfl (by kernel_rfl) (by rfl) (fun K hK => ?_)
              refine wp_append_own _ _ _ 29 rfl w3.heap.size 68 i0 (.agg #[.int .i64 0, .int .i64 0]) 2 16 Tryz.underlying29 hi hz0 hz1 hz2 rfl (by decide) (.slice (some ⟨g9, 0, none⟩) (r.length + 1) cap) (r.length + 1) _ rfl (OwnS.row (OwnS.alloc (W := W5) HO5.out (.cells #[.int .i64 t, .int .i64 u] 68)) HLEN.out) ⟨W5.heap.size, 0, none⟩ 1 1 (cellsS (t, u)) rfl rfl (fun j u h => cell_litS _ _ _ j u h) (cellsS_one _) (by omega) (by omega) (by show w3.heap.size ≤ (World.alloc _ _).heap.size; have := HB5.out.size; simp; omega) ?_
              intro v' w4 hown' hgrow _
              obtain ⟨g', cap', rfl⟩ := ownsRow_succ hown'
              have hb4 : Below w3.heap.size W5 w4 := Below.trans (b := (W5.alloc (.cells #[.int .i64 t, .int .i64 u] 68)).drew) (below_ind ((Below.refl w3.heap.size W5).alloc HB5.out.size _) 1) (below_ownS (W := (W5.alloc _).drew) (OwnS.alloc (W := W5) HO5.out (.cells #[.int .i64 t, .int .i64 u] 68)) hgrow (by have := HB5.out.size; simp; omega))
              have HF := Lib.hid (show OwnS w4 w3.heap.size (.slice (some ⟨g', 0, none⟩) (r.length + 1 + 1) cap') ((r ++ [p]) ++ [(t, u)]) from ownS_snoc' HLEN.out hown')
              have HB4 := Lib.hid (HB5.out.trans hb4)
              have hS4 := SEnd.next HS5.out hb4 hgs
              clear hown' hgrow hb4
              refine hK.out _ _ hS4 (fun hHeld4 => ?_)
              clear hK K hHeld2
              try simp only [Act.put, List.setIfInBounds_toArray]
              refine takeV 13 (some 9) (.slice (some ⟨g', 0, none⟩) (r.length + 1 + 1) cap') rfl rfl (by kernel_rfl) (by kernel_rfl) (by kernel_rfl) (fun _ _ _ h => h) (by rfl) (by (intro _w _hSw; (try dsimp only at _hSw); go_simp)) (by assumption) ?_
              simp only [Act.put]
              refine wpAnyH_done (by kernel_rfl) ?_ _
              go_wp2
              go_roundg g
              case measure => omega
              case rel => exact ⟨j + 1, (r ++ [p]) ++ [(t, u)], by go_num, by omega, HF.out, by show _ = _; rw [← HE.out, HST2.out, HADD.out], (fun q hq z hz => by rw [HUU.out] at hz; cases hz; exact HQ2.out q hq), by simp <;> omega, HB4.out⟩
end Go.Proofs.YtlmihlepaoifiaaGreat

/-
  CONTRACTS of the document's own answer: Two (what two sets are together).
-/
namespace Go.Proofs.YtlmihlepaoifiaaGreat
open Go.RowKit

/-- the document's answer for two sets -/
def twoL (f : Bool → Bool → Bool) (a b : List Sp) : List Sp := if setB a && setB b then ofL f a b [] (endsL (a ++ b)) else []
end Go.Proofs.YtlmihlepaoifiaaGreat

/-
  CONTRACTS of the document's own answer: Covers, Make.
-/
namespace Go.Proofs.YtlmihlepaoifiaaGreat
open Go.RowKit

def covB (a b : List Sp) : Bool := setB a && setB b && decide ((twoL notF b a).length = 0)
end Go.Proofs.YtlmihlepaoifiaaGreat

/-
  CONTRACT of the document's own answer: Make.
-/
namespace Go.Proofs.YtlmihlepaoifiaaGreat
open Go.RowKit

end Go.Proofs.YtlmihlepaoifiaaGreat

/-
  FACTS for the law SpanSets: what the program's answers are, in the document's words.
-/
namespace Go.Proofs.YtlmihlepaoifiaaGreat
open Go.RowKit Go.Shelf

theorem innB_iff {l : List Sp} {t : Int} : innB l t = true ↔ Inn l t := decide_eq_true_iff
theorem inn_lowB {l : List Sp} {x : Int} (hk : ∀ s ∈ l, SpOk s) (hx : x < minT) : innB l x = false := innB_no fun s hs h => by
  have := (hk s hs).1.1
  omega
theorem pick_none : ∀ (r : List (Sp × Nat)) (acc : List Sp), (∀ x ∈ r, x.2 ≠ 2) → pickL isTwo acc r = acc
  | [], _, _ => rfl
  | x :: r, acc, h => by
    have h2 : ¬ isTwo x.2 = true := by unfold isTwo; simpa using h x (by simp)
    rw [pickL_cons, if_neg h2]
    exact pick_none r acc fun y hy => h y (by simp [hy])
theorem wantsTwo_iff (x y : Bool) : decide (wants isTwo x y) = notF y x := by cases x <;> cases y <;> decide
/-- Covers, by what is told. -/
theorem told_covB {a b : List Sp} {r : List (Sp × Nat)} (h : Told a b minT r) (ha : setB a = true) (hb : setB b = true) (hka : ∀ s ∈ a, SpOk s) (hkb : ∀ s ∈ b, SpOk s) : covB a b = true ↔ ∀ x ∈ r, x.2 ≠ 2 := by
  obtain ⟨h1, h3, h4⟩ := told_pick h (live_of ha hka) (live_of hb hkb) (Int.le_refl _) isTwo [] setL_nil (fun _ h => by cases h)
  obtain ⟨g1, g2⟩ := of_set notF rfl b a
  have e1 : twoL notF b a = ofL notF b a [] (endsL (b ++ a)) := by unfold twoL; rw [ha, hb]; rfl
  have hP : pickL isTwo [] r = twoL notF b a := by
    rw [e1]
    refine set_ext h1 g1 fun t => ?_
    rw [h4 t, ← innB_iff (l := ofL _ _ _ _ _), g2 t, ← wantsTwo_iff, decide_eq_true_iff]
    refine ⟨fun k => ?_, fun k => .inr ⟨?_, k⟩⟩
    · rcases k with ⟨_, k⟩ | k
      · exact absurd k (inn_nil _)
      · exact k.2
    · by_cases ht : minT ≤ t
      · exact ht
      · have h9 := (wantsTwo_is _ _ k).2
        rw [inn_lowB hkb (by omega)] at h9
        cases h9
  unfold covB
  rw [ha, hb, ← hP]
  simp only [Bool.true_and, Bool.and_self, decide_eq_true_iff]
  refine ⟨fun k x hx h2 => ?_, fun k => ?_⟩
  · exact pick_ne r [] (.inr ⟨x, hx, h2⟩) (List.length_eq_zero_iff.1 k)
  · rw [pick_none r [] k]; rfl
theorem covB_unset {a b : List Sp} (h : (setB a && setB b) = false) : covB a b = false := by unfold covB; rw [h]; rfl
end Go.Proofs.YtlmihlepaoifiaaGreat
