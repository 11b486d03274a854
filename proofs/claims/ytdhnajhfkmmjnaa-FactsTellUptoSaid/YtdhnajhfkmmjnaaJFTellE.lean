import Derived.Test.YtdhnajhfkmmjnaaJFLeast
import Derived.Test.YtdhnajhfkmmjnaaJFThen
import Derived.Test.YtdhnajhfkmmjnaaJFMayR
import Derived.Test.YtdhnajhfkmmjnaaJFTurn
import Derived.Test.YtdhnajhfkmmjnaaJFChgR
import Derived.Test.YtdhnajhfkmmjnaaJFSpR
/-
  CONTRACT: facts.At.
-/
namespace Go.Proofs.Ytdhnajhfkmmjnaa
open Go.RowKit Go.Shelf

theorem cellsF_one {f : FactP} {sv : Value} (h : ∃ A n c, sv = .slice A n c) : ∀ u ∈ cellsF (f, sv), u.oneCell' = true := fun u hu => by
  obtain ⟨A, n, c, rfl⟩ := h
  simp [cellsF] at hu
  rcases hu with rfl | rfl | rfl | rfl | rfl | rfl <;> rfl
theorem OwnF.boxAt {W : World} {B bx : Nat} {v u : Value} {ps : List (FactP × Value)} {f : FactP} {sv : Value} (h : OwnF W B v ps) (hb : FcBx W bx f sv) (hne : ∀ g, v.ownBlock = some g → g ≠ bx) : OwnF (W.setCell ⟨bx, 5, none⟩ u) B v ps := by
  have hg : W.grownBy (W.setCell ⟨bx, 5, none⟩ u) (some bx) := ⟨rfl, rfl, rfl, by simp, fun k _ h => Below.heap_setCell W ⟨bx, 5, none⟩ u k (fun e => h (by rw [e]))⟩
  refine ⟨World.ownsRow.kept h.1 hg (.inr fun e => hne bx e rfl), fun p hp => (h.2 p hp).off hg fun r e cs fr hc => ?_⟩
  cases e
  rw [show W.heap[bx]? = _ from hb] at hc
  injection hc with hc
  injection hc with _ h2 _
  exact absurd h2 (by decide)
theorem OwnF.push {W w1 : World} {B : Nat} {v v' : Value} {ps : List (FactP × Value)} {f : FactP} {vi : Value} {tmp : Obj} (h : OwnF W B v ps) (hi : SV W vi f.l)
    (hown' : w1.ownsRow B 42 6 v' (ps.length + 1) (ps.flatMap cellsF ++ cellsF (f, vi))) (hgrow : (W.alloc tmp).grownBy w1 v.ownBlock) : OwnF w1 B v' (ps ++ [(f, vi)]) := by
  have hr := World.ownsRow.alloc h.1 tmp
  refine ⟨by simpa using hown', fun p hp => ?_⟩
  have hp2 : SV W p.2 p.1.l := by
    rcases List.mem_append.1 hp with hp | hp
    · exact h.2 p hp
    · rw [List.mem_singleton.1 hp]; exact hi
  exact (hp2.alloc tmp).other hr (by decide) hgrow
/-- those that hold at an instant -/
def atL (t : Int) (fs : List FactP) : List FactP := fs.filter fun f => innB f.l t
set_option maxRecDepth 100000 in
set_option maxHeartbeats 4000000 in
theorem at_any (t : Int) (A : Option Addr) (c : Nat) (fs : List FactP) (w : World) (hs : FVa w (.slice A fs.length c) fs) (hl : fs.length ≤ 100000) (hz : ∀ f ∈ fs, f.s.size ≤ maxLen ∧ f.l.length ≤ 100000) :
    Calls Try.prog 11 #[.slice A fs.length c, .int .i64 t] w fun e w' => (∃ v ec, e = .returned (.tuple #[v, .int .i64 ec]) ∧ ((mayFs fs = true ∧ ec = 0 ∧ FV w' v (atL t fs)) ∨ (mayFs fs = false ∧ ec = 60 ∧ v = .slice none 0 0))) ∧ Below w.heap.size w w' := by
  obtain ⟨i0, hi, hz0, hz1, hz2⟩ := info_parts infoF
  have hmx : 2000000000000 ≤ maxLen := by decide
  have HC := Lib.hid (mayFs_any A c fs w hs hl hz)
  have HS0 := Lib.hid hs
  have HZ := Lib.hid hz
  clear hs hz
  obtain ⟨v, hv⟩ : ∃ v, mayFs fs = v := ⟨_, rfl⟩
  rw [hv] at HC
  have HMV := Lib.hid hv
  clear hv
  go_enter Try.func11, Try.ntmps11
  go_wp2_with fail
  refine HC.out.mono ?_
  rintro en w1 ⟨rfl, hb1⟩
  have HB1 := Lib.hid hb1
  have HS1 := Lib.hid (HS0.out.next hb1)
  clear hb1 HC HS0
  cases v
  · go_wp2
    go_ret2
    exact ⟨⟨_, _, rfl, .inr ⟨HMV.out, rfl, rfl⟩⟩, HB1.out⟩
  go_wp2
  go_loopg [6, 8, 14] fs.length (fun g x6 _ x14 wr => ∃ (j : Nat) (ps : List (FactP × Value)), OwnF wr w1.heap.size x6 ps ∧ x14 = .int .i64 j ∧ j + g = fs.length ∧ Hid (ps.map (·.1) = atL t (fs.take j)) ∧ ps.length ≤ j ∧ Hid (Below w1.heap.size w1 wr))
  case atStart => exact ⟨0, [], ownF_nil _ _, rfl, by omega, rfl, Nat.le_refl _, Below.refl _ _⟩
  case round =>
    obtain ⟨j, ps, ho, rfl, hj, HP, hpl, HB⟩ := hrel
    cases gk with
    | zero =>
      have hjz : ¬ ((j : Int) < (fs.length : Int)) := by omega
      have HE : Hid (ps.map (·.1) = atL t fs) := by
        have := HP.out
        rwa [List.take_of_length_le (by omega)] at this
      have hfv := ho.fv
      rw [HE.out] at hfv
      obtain ⟨A9, c9, rfl, _⟩ := id hfv
      have HFV := Lib.hid hfv
      have HBW := Lib.hid (HB1.out.trans (HB.out.mono HB1.out.size))
      clear hfv ho
      go_wp2
      go_ret2
      exact ⟨⟨_, _, rfl, .inl ⟨HMV.out, rfl, HFV.out⟩⟩, HBW.out⟩
    | succ g =>
      have hjz : (j : Int) < (fs.length : Int) := by omega
      have hjn : j < fs.length := by omega
      obtain ⟨b, o, sv, rfl, hlt, hc, hsv⟩ := fva_at (HS1.out.next HB.out) hjn
      obtain ⟨f, hf⟩ : ∃ f, fs[j] = f := ⟨_, rfl⟩
      rw [hf] at hc hsv
      have HTK : Hid (fs.take (j + 1) = fs.take j ++ [f]) := by show _ = _; rw [List.take_succ_eq_append_getElem hjn, hf]
      have hfm : f ∈ fs := by rw [← hf]; exact List.getElem_mem _
      have hset : setB f.l = true := by
        have := (of_decide_eq_true HMV.out).1 f hfm
        unfold mayF at this
        simp only [Bool.and_eq_true] at this
        exact this.2
      have hzf := HZ.out f hfm
      obtain ⟨As, cs, rfl, hsl, _⟩ := hsv
      have c0 := hc.1
      have c1 := hc.2.1
      have c2 := hc.2.2.1
      have c3 := hc.2.2.2.1
      have c4 := hc.2.2.2.2.1
      have c5 := hc.2.2.2.2.2
      have hsz := HB.out.size
      obtain ⟨wa, hwa⟩ : ∃ wa, wr.alloc (.cells #[.int .i64 f.e, .int .i64 f.a, .int .i64 f.k, .int .i64 f.m, .string f.s, .slice As f.l.length cs] 42) = wa := ⟨_, rfl⟩
      have hba : Below wr.heap.size wr wa := by rw [← hwa]; exact (Below.refl _ wr).alloc (Nat.le_refl _) _
      have hxa : FcBx wa wr.heap.size f (.slice As f.l.length cs) := by rw [← hwa]; exact fcBx_new wr f _
      have HOA := Lib.hid (ho.next hba)
      have HNE : Hid (∀ g u, (u : Value) = u → g ∈ ([] : List Nat) → False) := fun g u _ h => by cases h
      have hrow : ∀ x6 : Value, OwnF wr w1.heap.size x6 ps → ∀ g, x6.ownBlock = some g → g ≠ wr.heap.size := fun x6 h g e => by have := (World.ownsRow.lt h.1 g e).2; omega
      have HRW := Lib.hid (hrow _ ho)
      have HXA := Lib.hid hxa
      have HBA := Lib.hid (HB.out.trans (hba.mono hsz))
      have HSA := Lib.hid ((hsl.next hba (Nat.le_refl _)).more hba.size)
      have HCL := Lib.hid (fun X (h : SlS X X.heap.size As f.l) => cloneS_any As cs f.l X h hzf.2)
      obtain ⟨is, his⟩ : ∃ v, innB f.l t = v := ⟨_, rfl⟩
      have HHS := Lib.hid (has_is As cs f.l t wa is (by rw [hset, his]; rfl) HSA.out hzf.2)
      have HIS := Lib.hid his
      have x5 := hxa.k5
      clear hc hsl hf hfm hset hba hxa his ho hrow
      go_upto_region 7 with (fail)
      try rw [hwa]
      clear hwa c0 c1 c2 c3 c4 c5
      go_wp2_with fail
      refine HHS.out.mono ?_
      rintro en w2 ⟨rfl, hb2⟩
      have HB2 := Lib.hid (HBA.out.trans (hb2.mono HBA.out.size))
      have HX2 := Lib.hid (HXA.out.next hb2)
      have HO2 := Lib.hid (HOA.out.next hb2)
      have HS2 := Lib.hid ((HSA.out.next hb2 (Nat.le_refl _)).more hb2.size)
      clear hb2 HHS HXA HOA HSA x5
      cases is
      · have HN : Hid (atL t (fs.take (j + 1)) = atL t (fs.take j)) := by
          show _ = _
          unfold atL
          rw [HTK.out, List.filter_append]
          simp [HIS.out]
        go_wp2
        go_roundg g
        case measure => omega
        case rel => exact ⟨j + 1, ps, HO2.out, by go_num, by omega, by rw [HN.out]; exact HP.out, by omega, HB2.out⟩
      · have HN : Hid (atL t (fs.take (j + 1)) = atL t (fs.take j) ++ [f]) := by
          show _ = _
          unfold atL
          rw [HTK.out, List.filter_append]
          simp [HIS.out]
        have x5 := HX2.out.k5
        have HC2 := Lib.hid (HCL.out w2 HS2.out)
        go_wp2_with fail
        refine HC2.out.mono ?_
        rintro en w3 ⟨v3, rfl, ho3, hb3⟩
        have HB3 := Lib.hid (HB2.out.trans (hb3.mono HB2.out.size))
        have hx3 := HX2.out.next hb3
        have hsv3 := ownS_sv ho3
        obtain ⟨A3, c3, rfl, _⟩ := id hsv3
        have hx4 : FcBx (w3.setCell ⟨wr.heap.size, 5, none⟩ (.slice A3 f.l.length c3)) wr.heap.size f (.slice A3 f.l.length c3) := by
          obtain ⟨hlt, hk⟩ := Array.getElem?_eq_some_iff.1 hx3
          show (w3.heap.modify wr.heap.size _)[wr.heap.size]? = _
          rw [Array.getElem?_eq_getElem (by rw [Array.size_modify]; exact hlt), Array.getElem_modify_self, hk]
          rfl
        have HO4 := Lib.hid ((HO2.out.next hb3).boxAt (u := .slice A3 f.l.length c3) hx3 HRW.out)
        have hsv4 : SV (w3.setCell ⟨wr.heap.size, 5, none⟩ (.slice A3 f.l.length c3)) (.slice A3 f.l.length c3) f.l := hsv3.off (row := some wr.heap.size) ⟨rfl, rfl, rfl, by simp, fun k _ h => Below.heap_setCell w3 ⟨wr.heap.size, 5, none⟩ _ k (fun e => h (by rw [e]))⟩ fun r e cs fr hc => by
          cases e
          rw [show w3.heap[wr.heap.size]? = _ from hx3] at hc
          injection hc with hc
          injection hc with _ h2 _
          exact absurd h2 (by decide)
        have HB4 : Hid (Below w1.heap.size w1 (w3.setCell ⟨wr.heap.size, 5, none⟩ (.slice A3 f.l.length c3))) := HB3.out.setCell (p := ⟨wr.heap.size, 5, none⟩) hsz _
        obtain ⟨w4, hw4⟩ : ∃ w4, w3.setCell ⟨wr.heap.size, 5, none⟩ (.slice A3 f.l.length c3) = w4 := ⟨_, rfl⟩
        rw [hw4] at hx4 HO4 hsv4 HB4
        have y5 := hx3.k5
        have yf : w3.frozen? ⟨wr.heap.size, 5, none⟩ = false := by unfold FcBx at hx3; simp [World.frozen?, hx3]
        have HX4 := Lib.hid hx4
        have HV4 := Lib.hid hsv4
        have hs4 := HB4.out.size
        clear hb3 hx3 hsv3 hx4 hsv4 ho3 x5 HC2
        go_upto_region 9 with (fail)
        try rw [hw4]
        clear hw4 y5 yf
        have z0 := HX4.out.k0
        have z1 := HX4.out.k1
        have z2 := HX4.out.k2
        have z3 := HX4.out.k3
        have z4 := HX4.out.k4
        have z5 := HX4.out.k5
        go_wp2_with (at_builtin; go_loud (refine wpList_append_own _ rfl _ _ 22 rfl w1.heap.size 42 i0 (.agg #[.int .i64 0, .int .i64 0, .int .i64 0, .int .i64 0, .string ⟨#[]⟩, .slice none 0 0]) 6 72 Try.underlying22 hi hz0 hz1 hz2 rfl (by decide) _ _ _ rfl (World.ownsRow.alloc HO4.out.1 _) ⟨w4.heap.size, 0, none⟩ 1 1 (cellsF (f, .slice A3 f.l.length c3)) rfl rfl (fun j u h => cell_lit w4 #[.int .i64 f.e, .int .i64 f.a, .int .i64 f.k, .int .i64 f.m, .string f.s, .slice A3 f.l.length c3] 42 j u h) (cellsF_one ⟨_, _, _, rfl⟩) (by omega) (by omega) (by simp; omega) ?_); intro v' w5 hown' hgrow _; have HO5 := Lib.hid (HO4.out.push HV4.out hown' hgrow); have HB5 := Lib.hid (HB4.out.trans (((Below.refl w1.heap.size w4).alloc hs4 (.cells #[.int .i64 f.e, .int .i64 f.a, .int .i64 f.k, .int .i64 f.m, .string f.s, .slice A3 f.l.length c3] 42)).grown hgrow (by simp; omega) (fun q hq => (World.ownsRow.lt HO4.out.1 q hq).1))); clear hown' hgrow)
        go_roundg g
        case measure => omega
        case rel => exact ⟨j + 1, ps ++ [(f, .slice A3 f.l.length c3)], HO5.out, by go_num, by omega, by rw [HN.out, List.map_append, HP.out]; rfl, by rw [List.length_append, List.length_singleton]; omega, HB5.out⟩
end Go.Proofs.Ytdhnajhfkmmjnaa

/-
  CONTRACT of the document's own answer: At.
-/
namespace Go.Proofs.Ytdhnajhfkmmjnaa
open Go.RowKit Go.Shelf

/-- a value that reads as spans, in blocks below M -/
def SVm (W : World) (M : Nat) (v : Value) (l : List Sp) : Prop := ∃ A c, v = .slice A l.length c ∧ SlS W M A l ∧ l.length ≤ c ∧ c ≤ maxLen
theorem SVm.next {W W' : World} {M B : Nat} {v : Value} {l : List Sp} (h : SVm W M v l) (hb : Below B W W') (hM : M ≤ B) : SVm W' M v l := by
  obtain ⟨A, c, e, hs, h2⟩ := h
  exact ⟨A, c, e, hs.next hb hM, h2⟩
/-- a row of facts of the call's own, whose spans lie below M -/
def OwnA (W : World) (M : Nat) (v : Value) (ps : List (FactP × Value)) : Prop := W.ownsRow M 42 6 v ps.length (ps.flatMap cellsF) ∧ ∀ p ∈ ps, SVm W M p.2 p.1.l
theorem ownA_nil (W : World) (M : Nat) : OwnA W M (.slice none 0 0) [] := ⟨World.ownsRow_nil _ _ _ _, fun _ h => by cases h⟩
theorem OwnA.next {W W' : World} {M : Nat} {v : Value} {ps : List (FactP × Value)} (h : OwnA W M v ps) (hM : M ≤ W.heap.size) (hb : Below W.heap.size W W') : OwnA W' M v ps := by
  refine ⟨⟨h.1.1, ?_⟩, fun p hp => (h.2 p hp).next hb hM⟩
  rcases h.1.2 with h | ⟨g, cap, cur, h1, h2, h3, h4⟩
  · exact .inl h
  · exact .inr ⟨g, cap, cur, h1, h2, (hb.block g (Array.getElem?_eq_some_iff.1 h3).1).trans h3, h4⟩
theorem OwnA.fva {W : World} {M : Nat} {v : Value} {ps : List (FactP × Value)} (h : OwnA W M v ps) (hM : M ≤ W.heap.size) : FVa W v (ps.map (·.1)) := by
  rcases h.1.2 with ⟨rfl, h0⟩ | ⟨g, cap, cur, rfl, hgB, hgb, hlc, hcm, _⟩
  · have : ps = [] := List.length_eq_zero_iff.1 h0
    subst this
    exact ⟨none, 0, rfl, fun hl => absurd rfl hl, Nat.le_refl _, Nat.zero_le _⟩
  · refine ⟨_, _, by rw [List.length_map], fun _ => ⟨g, 0, rfl, (Array.getElem?_eq_some_iff.1 hgb).1, fun j x hx => ?_⟩, by rw [List.length_map]; exact hlc, hcm⟩
    rw [List.getElem?_map] at hx
    obtain ⟨p, hp, rfl⟩ := Option.map_eq_some_iff.1 hx
    have hc : ∀ i u, i < 6 → (cellsF p)[i]? = some u → W.cell? ⟨g, 0 + j * 6 + i, none⟩ = some u := fun i u hi hu => by
      have := World.ownsRow.cells h.1 (g := g) rfl (j * 6 + i) u (by rw [flatG (enc := cellsF) (k := 6) (fun _ => rfl) hi, hp]; exact hu)
      rw [addI] at this
      rw [show (0 : Nat) + j * 6 + i = 0 + (j * 6 + i) by omega]
      exact this
    obtain ⟨Aq, cq, e, hs, h2⟩ := h.2 p (List.mem_of_getElem? hp)
    exact ⟨p.2, ⟨hc 0 _ (by decide) rfl, hc 1 _ (by decide) rfl, hc 2 _ (by decide) rfl, hc 3 _ (by decide) rfl, hc 4 _ (by decide) rfl, hc 5 _ (by decide) rfl⟩, Aq, cq, e, hs.more hM, h2⟩
theorem OwnA.snoc {W W' : World} {M : Nat} {v v' : Value} {ps : List (FactP × Value)} {p : FactP × Value} (h : OwnA W M v ps) (hp : SVm W M p.2 p.1.l) (ho : W'.ownsRow M 42 6 v' (ps.length + 1) (ps.flatMap cellsF ++ cellsF p)) (hb : Below M W W') : OwnA W' M v' (ps ++ [p]) := by
  refine ⟨by rw [List.length_append, List.flatMap_append]; simpa using ho, fun q hq => ?_⟩
  rcases List.mem_append.1 hq with hq | hq
  · exact (h.2 q hq).next hb (Nat.le_refl _)
  · rw [List.mem_singleton.1 hq]; exact hp.next hb (Nat.le_refl _)
set_option maxRecDepth 100000 in
set_option maxHeartbeats 4000000 in
/-- CONTRACT of the document's own answer: At. -/
theorem refAt_any (t : Int) (A : Option Addr) (c : Nat) (fs : List FactP) (w : World) (hs : FVa w (.slice A fs.length c) fs) (hl : fs.length ≤ 100000) (hz : ∀ f ∈ fs, f.s.size ≤ maxLen ∧ f.l.length ≤ 100000) :
    Calls Try.prog 12 #[.slice A fs.length c, .int .i64 t] w fun e w' => (∃ v ec, e = .returned (.tuple #[v, .int .i64 ec]) ∧ ((mayFs fs = true ∧ ec = 0 ∧ FVa w' v (atL t fs)) ∨ (mayFs fs = false ∧ ec = 60 ∧ v = .slice none 0 0))) ∧ Below w.heap.size w w' := by
  obtain ⟨i0, hi, hz0, hz1, hz2⟩ := info_parts infoF
  have hmx : 2000000000000 ≤ maxLen := by decide
  have HM := Lib.hid (refMayF_any A c fs w hs hl hz)
  have HS := Lib.hid hs
  have HZ := Lib.hid hz
  obtain ⟨v, hv⟩ : ∃ v, mayFs fs = v := ⟨_, rfl⟩
  rw [hv] at HM
  have HV := Lib.hid hv
  clear hs hz hv
  go_enter Try.func12, Try.ntmps12
  go_wp2_with fail
  refine HM.out.mono ?_
  rintro e9 w1 ⟨rfl, hb1⟩
  have HB1 := Lib.hid hb1
  clear hb1
  cases v
  · go_wp2
    go_ret2
    exact ⟨⟨_, _, rfl, .inr ⟨HV.out, rfl, rfl⟩⟩, HB1.out⟩
  · go_wp2
    go_loopg [7, 8] fs.length (fun g x y wr => ∃ (j : Nat) (ps : List (FactP × Value)), y = .int .i64 j ∧ j + g = fs.length ∧ Hid (OwnA wr w.heap.size x ps) ∧ Hid (ps.map (·.1) = atL t (fs.take j)) ∧ Hid (ps.length ≤ j) ∧ Hid (Below w.heap.size w wr))
    case atStart => exact ⟨0, [], rfl, by omega, ownA_nil _ _, rfl, Nat.le_refl _, HB1.out⟩
    case round =>
      obtain ⟨j, ps, rfl, hj, HO, HP, HPL, HB⟩ := hrel
      cases gk with
      | zero =>
        have hjz : ¬ ((j : Int) < (fs.length : Int)) := by omega
        have HE : Hid (ps.map (·.1) = atL t fs) := by
          have := HP.out
          rwa [List.take_of_length_le (by omega)] at this
        have hfv := HO.out.fva HB.out.size
        rw [HE.out] at hfv
        obtain ⟨A9, c9, rfl, _⟩ := id hfv
        have HFV := Lib.hid hfv
        clear hfv
        go_wp2
        go_ret2
        exact ⟨⟨_, _, rfl, .inl ⟨HV.out, rfl, HFV.out⟩⟩, HB.out⟩
      | succ g =>
        have hjz : (j : Int) < (fs.length : Int) := by omega
        have hjn : j < fs.length := by omega
        obtain ⟨b, o, sv, rfl, hlt, hc, hsv⟩ := fva_at HS.out hjn
        obtain ⟨f, hf⟩ : ∃ f, fs[j] = f := ⟨_, rfl⟩
        rw [hf] at hc hsv
        have HTK : Hid (fs.take (j + 1) = fs.take j ++ [f]) := by show _ = _; rw [List.take_succ_eq_append_getElem hjn, hf]
        have hzf := HZ.out f (by rw [← hf]; exact List.getElem_mem _)
        obtain ⟨As, cs, rfl, hsl, hs2⟩ := id hsv
        have HSM : Hid (SVm wr w.heap.size (.slice As f.l.length cs) f.l) := (show SVm w w.heap.size _ f.l from ⟨As, cs, rfl, hsl, hs2⟩).next HB.out (Nat.le_refl _)
        have hcr := hc.next HB.out hlt
        have HLT := Lib.hid hlt
        have HCV := Lib.hid hc
        have HSL : Hid (SlS wr w.heap.size As f.l) := hsl.next HB.out (Nat.le_refl _)
        have HRI := Lib.hid (fun X (h : SlS X w.heap.size As f.l) => refIn_any As cs f.l t X w.heap.size h (by omega))
        obtain ⟨is, his⟩ : ∃ v, innB f.l t = v := ⟨_, rfl⟩
        rw [his] at HRI
        have HIS := Lib.hid his
        have c5 := hcr.2.2.2.2.2
        clear hf hc hsv hsl hs2 hcr hlt hzf his
        go_wp2_with fail
        refine (HRI.out _ HSL.out).mono ?_
        rintro e9 w2 ⟨rfl, nq, rfl⟩
        clear c5 HRI
        have HB2 : Hid (Below w.heap.size w (wr.drewN nq)) := below_ind HB.out nq
        have HO2 := Lib.hid (HO.out.next HB.out.size (below_ind (Below.refl wr.heap.size wr) nq))
        have HSM2 : Hid (SVm (wr.drewN nq) w.heap.size (.slice As f.l.length cs) f.l) := HSM.out.next (below_ind (Below.refl w.heap.size wr) nq) (Nat.le_refl _)
        cases is
        · have HN : Hid (atL t (fs.take (j + 1)) = atL t (fs.take j)) := by
            show _ = _
            unfold atL
            rw [HTK.out, List.filter_append]
            simp [HIS.out]
          go_wp2
          go_roundg g
          case measure => omega
          case rel => exact ⟨j + 1, ps, by go_num, by omega, HO2.out, by show _ = _; rw [HN.out, HP.out], by have := HPL.out; show _ ≤ _; omega, HB2.out⟩
        · have HN : Hid (atL t (fs.take (j + 1)) = atL t (fs.take j) ++ [f]) := by
            show _ = _
            unfold atL
            rw [HTK.out, List.filter_append]
            simp [HIS.out]
          have q := HCV.out.next HB2.out HLT.out
          have c0 := q.1
          have c1 := q.2.1
          have c2 := q.2.2.1
          have c3 := q.2.2.2.1
          have c4 := q.2.2.2.2.1
          have c5 := q.2.2.2.2.2
          clear q
          have hbl := (Below.refl (wr.drewN nq).heap.size (wr.drewN nq)).alloc (Nat.le_refl _) (.cells #[.int .i64 f.e, .int .i64 f.a, .int .i64 f.k, .int .i64 f.m, .string f.s, .slice As f.l.length cs] 42)
          have HOA := Lib.hid (HO2.out.next HB2.out.size hbl)
          have HSA := Lib.hid (HSM2.out.next hbl HB2.out.size)
          have HBA := Lib.hid (HB2.out.trans (hbl.mono HB2.out.size))
          clear hbl
          go_wp2_with (at_builtin; refine wpList_append_own _ rfl _ _ 22 rfl w.heap.size 42 i0 (.agg #[.int .i64 0, .int .i64 0, .int .i64 0, .int .i64 0, .string ⟨#[]⟩, .slice none 0 0]) 6 72 Try.underlying22 hi hz0 hz1 hz2 rfl (by decide) _ _ _ rfl HOA.out.1 ⟨(wr.drewN nq).heap.size, 0, none⟩ 1 1 (cellsF (f, .slice As f.l.length cs)) rfl rfl (fun j u h => cell_lit (wr.drewN nq) #[.int .i64 f.e, .int .i64 f.a, .int .i64 f.k, .int .i64 f.m, .string f.s, .slice As f.l.length cs] 42 j u h) (cellsF_one ⟨_, _, _, rfl⟩) (by have := HPL.out; omega) (by have := HPL.out; omega) HBA.out.size ?_; intro v1 w8 hown hgrow hnil; have HB8 : Hid (Below w.heap.size _ w8) := (Below.refl _ _).grown hgrow HBA.out.size (fun k hk => (World.ownsRow.lt HOA.out.1 k hk).1); have HO8 : Hid (OwnA w8 w.heap.size v1 (ps ++ [(f, .slice As f.l.length cs)])) := HOA.out.snoc HSA.out hown HB8.out; have HBE := Lib.hid (HBA.out.trans HB8.out); clear hown hgrow hnil)
          go_roundg g
          case measure => omega
          case rel => exact ⟨j + 1, ps ++ [(f, .slice As f.l.length cs)], by go_num, by omega, HO8, by show _ = _; rw [List.map_append, HP.out, HN.out]; rfl, by rw [List.length_append]; simp only [List.length_singleton]; have := HPL.out; show _ ≤ _; omega, HBE.out⟩

end Go.Proofs.Ytdhnajhfkmmjnaa

/-
  FactsTell: what the calls answer, in one form.
-/
namespace Go.Proofs.Ytdhnajhfkmmjnaa
open Go.RowKit Go.Shelf

def atR (t : Int) (old : List FactP) : List FactP := if mayFs old = true then atL t old else []
def atE (old : List FactP) : Int := if mayFs old = true then 0 else 60
noncomputable def chgR (old now : List FactP) (t : Int) : List Dat := if (mayFs old && mayFs now && txB t) = true then chgL old now t else []
def chgE (old now : List FactP) (t : Int) : Int := if (mayFs old && mayFs now) = true then (if txB t = true then 0 else 2) else 60
def spR (x : Tri) (old : List FactP) : List Sp := if mayFs old = true then spansOf old x else []
theorem fva_nil (W : World) : FVa W (.slice none 0 0) [] := ⟨none, 0, rfl, fun h => absurd rfl h, Nat.le_refl _, Nat.zero_le _⟩
def AtEnd (w : World) (t : Int) (old : List FactP) (e : Ending) (w' : World) : Prop := (∃ A c, e = .returned (.tuple #[.slice A (atR t old).length c, .int .i64 (atE old)]) ∧ FVa w' (.slice A (atR t old).length c) (atR t old)) ∧ Below w.heap.size w w'
def CgEnd (w : World) (old now : List FactP) (t : Int) (e : Ending) (w' : World) : Prop := (∃ A c, e = .returned (.tuple #[.slice A (chgR old now t).length c, .int .i64 (chgE old now t)]) ∧ SlD w' w'.heap.size A (chgR old now t)) ∧ Below w.heap.size w w'
def SgEnd (w : World) (x : Tri) (old : List FactP) (e : Ending) (w' : World) : Prop := (∃ A c, e = .returned (.tuple #[.slice A (spR x old).length c, .int .i64 (atE old)]) ∧ SlS w' w'.heap.size A (spR x old)) ∧ Below w.heap.size w w'
theorem atEnd_yes {w w' : World} {t : Int} {old : List FactP} {v : Value} (hm : mayFs old = true) (h : FVa w' v (atL t old)) (hb : Below w.heap.size w w') : AtEnd w t old (.returned (.tuple #[v, .int .i64 0])) w' := by
  have e1 : atR t old = atL t old := if_pos hm
  have e2 : atE old = 0 := if_pos hm
  obtain ⟨A, c, rfl, _⟩ := id h
  unfold AtEnd
  rw [e1, e2]
  exact ⟨⟨A, c, rfl, h⟩, hb⟩
theorem atEnd_no {w w' : World} {t : Int} {old : List FactP} (hm : mayFs old = false) (hb : Below w.heap.size w w') : AtEnd w t old (.returned (.tuple #[.slice none 0 0, .int .i64 60])) w' := by
  have e1 : atR t old = [] := if_neg (by rw [hm]; decide)
  have e2 : atE old = 60 := if_neg (by rw [hm]; decide)
  unfold AtEnd
  rw [e1, e2]
  exact ⟨⟨none, 0, rfl, fva_nil _⟩, hb⟩
theorem cgEnd_of {w w' : World} {old now : List FactP} {t : Int} {e : Ending} (h : ChgEnd w old now t e w') : CgEnd w old now t e w' := by
  obtain ⟨⟨v, ec, rfl, h⟩, hb⟩ := h
  unfold CgEnd
  rcases h with ⟨h1, h2, h3, rfl, ho⟩ | ⟨h1, rfl, rfl⟩ | ⟨h1, h2, h3, rfl, rfl⟩
  · have e1 : chgR old now t = chgL old now t := if_pos (by rw [h1, h2, h3]; rfl)
    have e2 : chgE old now t = 0 := by unfold chgE; rw [if_pos (by rw [h1, h2]; rfl), if_pos h3]
    obtain ⟨A, c, rfl, hs, _⟩ := ho.form
    rw [e1, e2]
    exact ⟨⟨A, c, rfl, hs⟩, hb⟩
  · have e1 : chgR old now t = [] := if_neg (by rw [h1]; simp)
    have e2 : chgE old now t = 60 := if_neg (by rw [h1]; decide)
    rw [e1, e2]
    exact ⟨⟨none, 0, rfl, fun h => absurd rfl h⟩, hb⟩
  · have e1 : chgR old now t = [] := if_neg (by rw [h3]; simp)
    have e2 : chgE old now t = 2 := by unfold chgE; rw [if_pos (by rw [h1, h2]; rfl), if_neg (by rw [h3]; decide)]
    rw [e1, e2]
    exact ⟨⟨none, 0, rfl, fun h => absurd rfl h⟩, hb⟩
theorem sgEnd_yes {w w' : World} {x : Tri} {old : List FactP} {v : Value} (hm : mayFs old = true) (h : SVa w' v (spansOf old x)) (hb : Below w.heap.size w w') : SgEnd w x old (.returned (.tuple #[v, .int .i64 0])) w' := by
  have e1 : spR x old = spansOf old x := if_pos hm
  have e2 : atE old = 0 := if_pos hm
  obtain ⟨A, c, rfl, hs, _⟩ := h
  unfold SgEnd
  rw [e1, e2]
  exact ⟨⟨A, c, rfl, hs⟩, hb⟩
theorem sgEnd_no {w w' : World} {x : Tri} {old : List FactP} (hm : mayFs old = false) (hb : Below w.heap.size w w') : SgEnd w x old (.returned (.tuple #[.slice none 0 0, .int .i64 60])) w' := by
  have e1 : spR x old = [] := if_neg (by rw [hm]; decide)
  have e2 : atE old = 60 := if_neg (by rw [hm]; decide)
  unfold SgEnd
  rw [e1, e2]
  exact ⟨⟨none, 0, rfl, fun h => absurd rfl h⟩, hb⟩
def TOk (W : World) (e : Ending) (w' : World) : Prop := e = .returned (.bool true) ∧ Below W.heap.size W w'
/-- what the law asks of its two lists -/
structure TellA (w : World) (A : Option Addr) (c : Nat) (l : List FactP) : Prop where
  f : FVa w (.slice A l.length c) l
  n : FNn w A l.length
  k : ∀ f ∈ l, ∀ q ∈ f.l, SpOk q
  z : ∀ f ∈ l, f.s.size ≤ maxLen
  u : l.length ≤ 1048576 ∧ ∀ f ∈ l, f.s.size + f.l.length ≤ 1048576
theorem TellA.next {w W : World} {A : Option Addr} {c : Nat} {l : List FactP} (h : TellA w A c l) (hb : Below w.heap.size w W) : TellA W A c l := ⟨h.f.next hb, FNn.next h.n h.f hb, h.k, h.z, h.u⟩

end Go.Proofs.Ytdhnajhfkmmjnaa
