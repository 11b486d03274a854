/-
  CONTRACT: turnOf (one transaction's datoms of one triple).
-/
import Derived.Maps.AppendAt
import Derived.Test.YthhkabbgghepbaaGreatJFThen
import Derived.Test.YthhkabbgghepbaaGreatJFFoldP
import Derived.Test.YthhkabbgghepbaaGreatJDSl
import Derived.Test.YthhkabbgghepbaaGreatJSOfP
import Derived.Test.YthhkabbgghepbaaGreatJORefK
namespace Go.Proofs.YthhkabbgghepbaaGreat
open Go.RowKit Go.Shelf

/-- two rows are none the same -/
def Ap (u v : Value) : Prop := ∀ g, u.ownBlock = some g → v.ownBlock = some g → False
theorem Ap.symm {u v : Value} (h : Ap u v) : Ap v u := fun g h1 h2 => h g h2 h1
theorem ap_kept {u v : Value} (h : Ap u v) : v.ownBlock = none ∨ v.ownBlock ≠ u.ownBlock := by
  cases hv : v.ownBlock with
  | none => exact .inl rfl
  | some k => exact .inr fun e => h k e.symm hv
theorem ap_next {W : World} {B size n : Nat} {t : TypeId} {u u' v : Value} {xs : List Value} (h : Ap u v) (hv : W.ownsRow B t size v n xs) (hat : u'.ownBlock = u.ownBlock ∨ u'.ownBlock = some W.heap.size) : Ap u' v := fun g h1 h2 => by
  rcases hat with e | e
  · exact h g (e ▸ h1) h2
  · have h3 := (World.ownsRow.lt hv g h2).2
    rw [e] at h1
    injection h1 with h1
    omega
theorem spOk_of {r l : List Sp} (hr : SetL r) (h : ∀ t, Inn r t ↔ Inn l t) (hl : ∀ q ∈ l, SpOk q) : ∀ q ∈ r, SpOk q := fun q hq => by
  obtain ⟨a, ha, h1, h2⟩ := (h _).1 (set_start hr hq).1
  obtain ⟨b, hb, h3, h4⟩ := (h _).1 (set_end hr hq).1
  have k1 := hl a ha
  have k2 := hl b hb
  have k3 := hr.2 q hq
  unfold SpOk at *
  exact ⟨⟨by omega, by omega⟩, by omega, by omega⟩
theorem own_set2 {W : World} {B bt : Nat} {x y v u u' : Value} {l : List Sp} (h : OwnS W B v l) (ht : TBx W bt x y) : OwnS ((W.setCell ⟨bt, 0, none⟩ u).setCell ⟨bt, 1, none⟩ u') B v l := by
  have hg : W.grownBy ((W.setCell ⟨bt, 0, none⟩ u).setCell ⟨bt, 1, none⟩ u') (some bt) :=
    ⟨rfl, rfl, rfl, by simp [World.setCell], fun k _ hne => (Below.heap_setCell _ ⟨bt, 1, none⟩ _ k (fun e => hne (by rw [e]))).trans (Below.heap_setCell _ ⟨bt, 0, none⟩ _ k (fun e => hne (by rw [e])))⟩
  refine World.ownsRow.kept h hg ?_
  rcases h.2 with ⟨rfl, _⟩ | ⟨g, cap, cur, rfl, _, hgb, _⟩
  · exact .inl rfl
  · refine .inr (fun e => ?_)
    have e2 : g = bt := by injection e
    subst e2
    rw [show W.heap[g]? = _ from ht] at hgb
    injection hgb with hgb
    injection hgb with _ h2 _
    exact absurd h2 (by decide)
/-- What turnOf answers. -/
def TurnEnd (w : World) (r : List Dat) (e : Ending) (w' : World) : Prop := (∃ x vi vo ok, e = .returned (.tuple #[.agg #[vi, vo], .bool ok]) ∧ IsTurn r x ∧ (∀ q ∈ x.i, SpOk q) ∧ (∀ q ∈ x.o, SpOk q) ∧ (ok = true ↔ ¬ Clash r) ∧ OwnS w' w.heap.size vi x.i ∧ OwnS w' w.heap.size vo x.o) ∧ Below w.heap.size w w'
theorem adds_take {r : List Dat} {j : Nat} {d : Dat} (h : r[j]? = some d) : addsL (r.take (j + 1)) = addsL (r.take j) ++ (if d.add = true then [spD d] else []) ∧ cutsL (r.take (j + 1)) = cutsL (r.take j) ++ (if d.add = true then [] else [spD d]) := by
  have ht : r.take (j + 1) = r.take j ++ [d] := by rw [List.take_add_one, h]; rfl
  rw [ht]
  unfold addsL cutsL
  rw [List.filter_append, List.map_append, List.filter_append, List.map_append]
  cases hd : d.add <;> simp [hd]
theorem adds_len (r : List Dat) : (addsL r).length ≤ r.length ∧ (cutsL r).length ≤ r.length := by
  unfold addsL cutsL
  rw [List.length_map, List.length_map]
  exact ⟨List.length_filter_le _ _, List.length_filter_le _ _⟩
theorem adds_mem {r : List Dat} {q : Sp} (h : q ∈ addsL r ∨ q ∈ cutsL r) : ∃ d ∈ r, q = spD d := by
  rcases h with h | h
  · obtain ⟨d, hd, rfl⟩ := List.mem_map.1 h
    exact ⟨d, (List.mem_filter.1 hd).1, rfl⟩
  · obtain ⟨d, hd, rfl⟩ := List.mem_map.1 h
    exact ⟨d, (List.mem_filter.1 hd).1, rfl⟩

set_option maxRecDepth 100000 in
set_option maxHeartbeats 4000000 in
theorem turnOf_any (A : Option Addr) (c : Nat) (r : List Dat) (w : World) (hs : SlD w w.heap.size A r) (hl : r.length ≤ 3000) (hv : ∀ d ∈ r, d.fr < d.til) (hk : ∀ d ∈ r, SpOk (spD d)) :
    Calls Tryz.prog 35 #[.slice A r.length c] w (TurnEnd w r) := by
  obtain ⟨i0, hi, hj0, hj1, hj2⟩ := info_parts info92
  have hmx : 100001 ≤ maxLen := by decide
  have HS := Lib.hid hs
  have HV := Lib.hid hv
  have HK := Lib.hid hk
  clear hs hv hk
  go_enter Tryz.func35, Tryz.ntmps35
  go_wp2
  obtain ⟨w0, hw0⟩ : ∃ w0, w.alloc (.cells #[.slice none 0 0, .slice none 0 0] 80) = w0 := ⟨_, rfl⟩
  have HZ0 : Hid (w0.heap.size = w.heap.size + 1) := by show _ = _; rw [← hw0]; simp
  have HB0 : Hid (Below w.heap.size w w0) := by rw [← hw0]; exact (Below.refl _ _).alloc (Nat.le_refl _) _
  have HT0 : Hid (TBx w0 w.heap.size (.slice none 0 0) (.slice none 0 0)) := by show TBx _ _ _ _; rw [← hw0]; exact heap_alloc_new w _
  rw [hw0]
  clear hw0
  go_loopg [4, 5, 17] r.length (fun g x4 x5 x17 wr => ∃ j : Nat, OwnS wr (w.heap.size + 1) x4 (addsL (r.take j)) ∧ OwnS wr (w.heap.size + 1) x5 (cutsL (r.take j)) ∧ Ap x4 x5 ∧ x17 = .int .i64 j ∧ j + g = r.length ∧ Hid (Below (w.heap.size + 1) w0 wr))
  case atStart => exact ⟨0, ownS_nil _ _, ownS_nil _ _, (fun g h => by cases h), rfl, by omega, Below.refl _ _⟩
  case round =>
    obtain ⟨j, ho4, ho5, hap, rfl, hj, HB⟩ := hrel
    have hl4 := (adds_len (r.take j)).1
    have hl5 := (adds_len (r.take j)).2
    rw [List.length_take] at hl4 hl5
    cases gk with
    | zero =>
      have hjz : ¬ ((j : Int) < (r.length : Int)) := by omega
      rw [List.take_of_length_le (by omega)] at ho4 ho5
      have HBW : Hid (Below w.heap.size w wr) := HB0.out.trans (HB.out.mono (Nat.le_succ _))
      have HTR : Hid (TBx wr w.heap.size (.slice none 0 0) (.slice none 0 0)) := (HB.out.block w.heap.size (Nat.lt_succ_self _)).trans HT0.out
      obtain ⟨A4, c4, rfl, s4, _, _⟩ := ho4.sls
      obtain ⟨A5, c5, rfl, s5, _, _⟩ := ho5.sls
      have z4 := (adds_len r).1
      have z5 := (adds_len r).2
      have kk : ∀ q, (q ∈ addsL r ∨ q ∈ cutsL r) → SpOk q ∧ q.1 < q.2 := fun q hq => by
        obtain ⟨d, hd, rfl⟩ := adds_mem hq
        exact ⟨HK.out d hd, HV.out d hd⟩
      have HKK := Lib.hid kk
      have S5 := Lib.hid s5
      clear kk ho4 ho5 s5 hl4 hl5 hap
      go_wp2_with fail
      refine (make_ok A4 c4 (addsL r) wr s4 (by omega) (fun q hq => (HKK.out q (.inl hq)).2)).mono ?_
      rintro e w2 ⟨li, vi, hi1, hi2, rfl, hoi, hb⟩
      have HB2 := Lib.hid (HBW.out.trans (hb.mono HBW.out.size))
      have HI := Lib.hid (And.intro hi1 hi2)
      have HOI := Lib.hid hoi
      have S52 := Lib.hid ((S5.out.next hb (Nat.le_refl _)).more hb.size)
      have HT2 := Lib.hid (HTR.out.next hb)
      have fi : 2 * li.length ≤ 6000 := by
        have h := set_few2 hi1 ((turnsAt_inn (addsL r)).iff hi2)
        rw [endsP_len] at h
        omega
      clear hi1 hi2 hoi hb s4 S5 HTR
      go_wp2_with fail
      refine (make_ok A5 c5 (cutsL r) w2 S52.out (by omega) (fun q hq => (HKK.out q (.inr hq)).2)).mono ?_
      rintro e w3 ⟨lo, vo, hi1, hi2, rfl, hoo, hb⟩
      have HB3 := Lib.hid (HB2.out.trans (hb.mono HB2.out.size))
      have HO := Lib.hid (And.intro hi1 hi2)
      have HOO := Lib.hid (hoo.low HB2.out.size)
      have HOI3 := Lib.hid ((HOI.out.low HBW.out.size).next hb)
      have HT3 := Lib.hid (HT2.out.next hb)
      have fo : 2 * lo.length ≤ 6000 := by
        have h := set_few2 hi1 ((turnsAt_inn (cutsL r)).iff hi2)
        rw [endsP_len] at h
        omega
      have ki := spOk_of HI.out.1 HI.out.2 (fun q hq => (HKK.out q (.inl hq)).1)
      have ko := spOk_of hi1 hi2 (fun q hq => (HKK.out q (.inr hq)).1)
      have HKI := Lib.hid ki
      have HKO := Lib.hid ko
      clear hi1 hi2 hoo hb S52 HT2 HOI ki ko
      go_wp2_with fail
      refine (and_any li lo vi vo w3 (ownS_sv HOI3.out) (ownS_sv HOO.out) HI.out.1 HO.out.1 HKI.out HKO.out (by omega)).mono ?_
      rintro e w4 ⟨⟨lc, vc, rfl, hoc, hcs, hck, hci⟩, hb⟩
      have HB4 := Lib.hid (HB3.out.trans (hb.mono HB3.out.size))
      have HOI4 := Lib.hid (HOI3.out.next hb)
      have HOO4 := Lib.hid (HOO.out.next hb)
      have HT4 := Lib.hid (HT3.out.next hb)
      have HCL : Hid (lc = [] ↔ ¬ Clash r) := by
        show _ ↔ _
        have hcl : Clash r ↔ ∃ t, Inn lc t := exists_congr fun t => (and_congr (HI.out.2 t) (HO.out.2 t)).symm.trans (hci t).symm
        rw [hcl]
        constructor
        · rintro rfl ⟨t, h⟩
          exact inn_nil t h
        · intro h
          cases lc with
          | nil => rfl
          | cons q lc => exact absurd ⟨_, (set_start hcs (List.mem_cons_self)).1⟩ h
      obtain ⟨Ac, cc, rfl, _, _, _⟩ := hoc.sls
      obtain ⟨Ai, ci, rfl, _, _, _⟩ := HOI4.out.sls
      obtain ⟨Ao, co, rfl, _, _, _⟩ := HOO4.out.sls
      have r0 := HT4.out.cell 0
      have r1 := HT4.out.cell 1
      have rf0 : w4.frozen? ⟨w.heap.size, 0, none⟩ = false := by have h := HT4.out; unfold TBx at h; simp [World.frozen?, h]
      have rf1 : w4.frozen? ⟨w.heap.size, 1, none⟩ = false := by have h := HT4.out; unfold TBx at h; simp [World.frozen?, h]
      simp at r0 r1
      clear hoc hcs hck hci hb HT3 HOI3 HOO
      by_cases hn : lc = []
      · subst hn
        have HC2 := Lib.hid (HCL.out.1 rfl)
        go_wp2
        refine bodyPost_ret (v := .tuple #[.agg #[.slice Ai li.length ci, .slice Ao lo.length co], .bool true]) ?_ rfl ⟨⟨⟨li, lo⟩, _, _, true, rfl, ⟨HI.out.1, HO.out.1, HI.out.2, HO.out.2⟩, HKI.out, HKO.out, ⟨fun _ => HC2.out, fun _ => rfl⟩, own_set2 HOI4.out HT4.out, own_set2 HOO4.out HT4.out⟩, ?_⟩
        · rw [results_cell_tmp1 rfl]; go_simp
        · exact (HB4.out.setCell (p := ⟨w.heap.size, 0, none⟩) (Nat.le_refl _) _).setCell (p := ⟨w.heap.size, 1, none⟩) (Nat.le_refl _) _
      · have hne : ((lc.length : Int) == 0) = false := by
          have := List.length_pos_iff.2 hn
          rw [beq_eq_false_iff_ne]; omega
        have HC2 := Lib.hid (fun h => hn (HCL.out.2 h))
        clear hn
        go_wp2
        refine bodyPost_ret (v := .tuple #[.agg #[.slice Ai li.length ci, .slice Ao lo.length co], .bool false]) ?_ rfl ⟨⟨⟨li, lo⟩, _, _, false, rfl, ⟨HI.out.1, HO.out.1, HI.out.2, HO.out.2⟩, HKI.out, HKO.out, ⟨(fun h => by cases h), (fun h => absurd h HC2.out)⟩, own_set2 HOI4.out HT4.out, own_set2 HOO4.out HT4.out⟩, ?_⟩
        · rw [results_cell_tmp1 rfl]; go_simp
        · exact (HB4.out.setCell (p := ⟨w.heap.size, 0, none⟩) (Nat.le_refl _) _).setCell (p := ⟨w.heap.size, 1, none⟩) (Nat.le_refl _) _
    | succ g =>
      have hjz : (j : Int) < (r.length : Int) := by omega
      have hjn : j < r.length := by omega
      have HBW : Hid (Below w.heap.size w wr) := HB0.out.trans (HB.out.mono (Nat.le_succ _))
      obtain ⟨b, q, rfl, hbl, hp⟩ := (HS.out.next HBW.out (Nat.le_refl _)).at_ hjn
      obtain ⟨d, hpe⟩ : ∃ p, r[j] = p := ⟨_, rfl⟩
      have hft := adds_take (show r[j]? = some d by rw [List.getElem?_eq_getElem hjn, hpe])
      rw [hpe] at hp
      have HFT := Lib.hid hft
      have m0 := hp.c0
      have m1 := hp.c1
      have m2 := hp.c2
      have m3 := hp.c3
      have m4 := hp.c4
      have m5 := hp.c5
      have m6 := hp.c6
      have m7 := hp.c7
      have m8 := hp.c8
      obtain ⟨L4, hL4⟩ : ∃ L, addsL (r.take j) = L := ⟨_, rfl⟩
      obtain ⟨L5, hL5⟩ : ∃ L, cutsL (r.take j) = L := ⟨_, rfl⟩
      rw [hL4] at ho4 hl4 HFT
      rw [hL5] at ho5 hl5 HFT
      have H4 := Lib.hid ho4
      have H5 := Lib.hid ho5
      have HAP := Lib.hid hap
      have HSZ : Hid (w.heap.size + 1 ≤ wr.heap.size) := by have h1 := HB.out.size; have h2 := HZ0.out; show _ ≤ _; omega
      clear hft hp hpe hL4 hL5 ho4 ho5 hap
      obtain ⟨da, hda⟩ : ∃ v, d.add = v := ⟨_, rfl⟩
      rw [hda] at m6 HFT
      have HDA := Lib.hid hda
      clear hda
      cases da with
      | false =>
        have hsz := HSZ.out
        go_wp2_with (at_builtin; refine wpList_append_own_at _ rfl _ _ 49 rfl (w.heap.size + 1) 53 i0 (.agg #[.int .i64 0, .int .i64 0]) 2 16 Tryz.underlying49 hi hj0 hj1 hj2 rfl (by decide) _ _ _ rfl (((H5.out.alloc _).alloc _).alloc _) ⟨wr.heap.size + 1 + 1, 0, none⟩ 1 1 (cellsS (d.fr, d.til)) rfl rfl (fun j u h => by have q := cell_lit ((wr.alloc (.cells #[.int .i64 d.e, .int .i64 d.a, .int .i64 d.k, .int .i64 d.m, .string d.s, .int .i64 d.t, .bool false, .int .i64 d.fr, .int .i64 d.til] 46)).alloc (.cells #[.int .i64 d.fr, .int .i64 d.til] 53)) #[.int .i64 d.fr, .int .i64 d.til] 53 j u h; rw [World.size_alloc, World.size_alloc] at q; exact q) (cellsS_one _) (by omega) (by omega) (by simp; omega) ?_; intro v' w3 hown' hgrow _ hat)
        have ho6 : OwnS w3 (w.heap.size + 1) v' (L5 ++ [(d.fr, d.til)]) := ownS_snoc hown'
        have hoY := (((H4.out.alloc (.cells #[.int .i64 d.e, .int .i64 d.a, .int .i64 d.k, .int .i64 d.m, .string d.s, .int .i64 d.t, .bool false, .int .i64 d.fr, .int .i64 d.til] 46)).alloc (.cells #[.int .i64 d.fr, .int .i64 d.til] 53)).alloc (.cells #[.int .i64 d.fr, .int .i64 d.til] 53))
        have HBN := Lib.hid (((((Below.refl _ wr).alloc hsz (.cells #[.int .i64 d.e, .int .i64 d.a, .int .i64 d.k, .int .i64 d.m, .string d.s, .int .i64 d.t, .bool false, .int .i64 d.fr, .int .i64 d.til] 46)).alloc (by simp; omega) (.cells #[.int .i64 d.fr, .int .i64 d.til] 53)).alloc (by simp; omega) (.cells #[.int .i64 d.fr, .int .i64 d.til] 53)).trans (below_ownS (((H5.out.alloc _).alloc _).alloc _) hgrow (by simp; omega)))
        have HYS := Lib.hid (World.ownsRow.kept hoY hgrow (ap_kept HAP.out.symm))
        have HAPN := Lib.hid ((ap_next HAP.out.symm hoY hat).symm)
        have HO6 := Lib.hid ho6
        clear hown' hgrow hat ho6 hoY
        go_roundg g
        case measure => omega
        case rel => exact ⟨j + 1, by rw [HFT.out.1]; show OwnS _ _ _ (L4 ++ []); rw [List.append_nil]; exact HYS.out, by rw [HFT.out.2]; exact HO6.out, HAPN.out, by go_num, by omega, HB.out.trans HBN.out⟩
      | true =>
        have hsz := HSZ.out
        go_wp2_with (at_builtin; refine wpList_append_own_at _ rfl _ _ 49 rfl (w.heap.size + 1) 53 i0 (.agg #[.int .i64 0, .int .i64 0]) 2 16 Tryz.underlying49 hi hj0 hj1 hj2 rfl (by decide) _ _ _ rfl (((H4.out.alloc _).alloc _).alloc _) ⟨wr.heap.size + 1 + 1, 0, none⟩ 1 1 (cellsS (d.fr, d.til)) rfl rfl (fun j u h => by have q := cell_lit ((wr.alloc (.cells #[.int .i64 d.e, .int .i64 d.a, .int .i64 d.k, .int .i64 d.m, .string d.s, .int .i64 d.t, .bool true, .int .i64 d.fr, .int .i64 d.til] 46)).alloc (.cells #[.int .i64 d.fr, .int .i64 d.til] 53)) #[.int .i64 d.fr, .int .i64 d.til] 53 j u h; rw [World.size_alloc, World.size_alloc] at q; exact q) (cellsS_one _) (by omega) (by omega) (by simp; omega) ?_; intro v' w3 hown' hgrow _ hat)
        have ho6 : OwnS w3 (w.heap.size + 1) v' (L4 ++ [(d.fr, d.til)]) := ownS_snoc hown'
        have hoY := (((H5.out.alloc (.cells #[.int .i64 d.e, .int .i64 d.a, .int .i64 d.k, .int .i64 d.m, .string d.s, .int .i64 d.t, .bool true, .int .i64 d.fr, .int .i64 d.til] 46)).alloc (.cells #[.int .i64 d.fr, .int .i64 d.til] 53)).alloc (.cells #[.int .i64 d.fr, .int .i64 d.til] 53))
        have HBN := Lib.hid (((((Below.refl _ wr).alloc hsz (.cells #[.int .i64 d.e, .int .i64 d.a, .int .i64 d.k, .int .i64 d.m, .string d.s, .int .i64 d.t, .bool true, .int .i64 d.fr, .int .i64 d.til] 46)).alloc (by simp; omega) (.cells #[.int .i64 d.fr, .int .i64 d.til] 53)).alloc (by simp; omega) (.cells #[.int .i64 d.fr, .int .i64 d.til] 53)).trans (below_ownS (((H4.out.alloc _).alloc _).alloc _) hgrow (by simp; omega)))
        have HYS := Lib.hid (World.ownsRow.kept hoY hgrow (ap_kept HAP.out))
        have HAPN := Lib.hid (ap_next HAP.out hoY hat)
        have HO6 := Lib.hid ho6
        clear hown' hgrow hat ho6 hoY
        go_roundg g
        case measure => omega
        case rel => exact ⟨j + 1, by rw [HFT.out.1]; exact HO6.out, by rw [HFT.out.2]; show OwnS _ _ _ (L5 ++ []); rw [List.append_nil]; exact HYS.out, HAPN.out, by go_num, by omega, HB.out.trans HBN.out⟩
end Go.Proofs.YthhkabbgghepbaaGreat
