import Derived.Test.YthdjlaombbeagaaGreatJFLeast
import Derived.Test.YthdjlaombbeagaaGreatJFTurn
import Derived.Test.YthdjlaombbeagaaGreatJFMayR
import Derived.Test.YthdjlaombbeagaaGreatJFFoldR
import Derived.Test.YthdjlaombbeagaaGreatJFSaid
import Derived.Test.YthdjlaombbeagaaGreatJFOrderL
import Derived.Test.YthdjlaombbeagaaGreatJFSome
import Derived.Test.YthdjlaombbeagaaGreatJFFoldRd
import Derived.Test.YthdjlaombbeagaaGreatJSRefSet
import Derived.BigQuiet
import Derived.Test.YthdjlaombbeagaaGreatJFMay
import Derived.Test.YthdjlaombbeagaaGreatJFSame
import Derived.Test.YthdjlaombbeagaaGreatJFAlike
import Derived.Test.YthdjlaombbeagaaGreatJRegion
/-
  CONTRACT: facts.At.
-/
namespace Go.Proofs.YthdjlaombbeagaaGreat
open Go.RowKit Go.Shelf

theorem cellsF_one {f : FactP} {sv : Value} (h : ∃ A n c, sv = .slice A n c) : ∀ u ∈ cellsF (f, sv), u.oneCell' = true := fun u hu => by
  obtain ⟨A, n, c, rfl⟩ := h
  simp [cellsF] at hu
  rcases hu with rfl | rfl | rfl | rfl | rfl | rfl <;> rfl
theorem OwnF.boxAt {W : World} {B bx : Nat} {v u : Value} {ps : List (FactP × Value)} {f : FactP} {sv : Value} (h : OwnF W B v ps) (hb : FcBx W bx f sv) (hne : ∀ g, v.ownBlock = some g → g ≠ bx) : OwnF (W.setCell ⟨bx, 5, none⟩ u) B v ps := by
  have hg : W.grownBy (W.setCell ⟨bx, 5, none⟩ u) (some bx) := ⟨rfl, rfl, rfl, by simp, fun k _ h => Below.heap_setCell W ⟨bx, 5, none⟩ u k (fun e => h (by rw [e]))⟩
  refine ⟨World.ownsRow.kept h.1 hg (.inr fun e => hne bx e rfl), fun p hp => (h.2 p hp).off hg fun r e cs fr hc => ?_⟩
  cases e
  rw [show W.heap[bx]? = _ from hb] at hc
  injection hc with hc
  injection hc with _ h2 _
  exact absurd h2 (by decide)
theorem OwnF.push {W w1 : World} {B : Nat} {v v' : Value} {ps : List (FactP × Value)} {f : FactP} {vi : Value} {tmp : Obj} (h : OwnF W B v ps) (hi : SV W vi f.l)
    (hown' : w1.ownsRow B 67 6 v' (ps.length + 1) (ps.flatMap cellsF ++ cellsF (f, vi))) (hgrow : (W.alloc tmp).grownBy w1 v.ownBlock) : OwnF w1 B v' (ps ++ [(f, vi)]) := by
  have hr := World.ownsRow.alloc h.1 tmp
  refine ⟨by simpa using hown', fun p hp => ?_⟩
  have hp2 : SV W p.2 p.1.l := by
    rcases List.mem_append.1 hp with hp | hp
    · exact h.2 p hp
    · rw [List.mem_singleton.1 hp]; exact hi
  exact (hp2.alloc tmp).other hr (by decide) hgrow
/-- those that hold at an instant -/
def atL (t : Int) (fs : List FactP) : List FactP := fs.filter fun f => innB f.l t
set_option maxRecDepth 100000 in
set_option maxHeartbeats 4000000 in
theorem at_any (t : Int) (A : Option Addr) (c : Nat) (fs : List FactP) (w : World) (hs : FVa w (.slice A fs.length c) fs) (hl : fs.length ≤ 100000) (hz : ∀ f ∈ fs, f.s.size ≤ maxLen ∧ f.l.length ≤ 100000) :
    Calls Tryz.prog 31 #[.slice A fs.length c, .int .i64 t] w fun e w' => (∃ v ec, e = .returned (.tuple #[v, .int .i64 ec]) ∧ ((mayFs fs = true ∧ ec = 0 ∧ FV w' v (atL t fs)) ∨ (mayFs fs = false ∧ ec = 60 ∧ v = .slice none 0 0))) ∧ Below w.heap.size w w' := by
  obtain ⟨i0, hi, hz0, hz1, hz2⟩ := info_parts infoF
  have hmx : 2000000000000 ≤ maxLen := by decide
  have HC := Lib.hid (mayFs_any A c fs w hs hl hz)
  have HS0 := Lib.hid hs
  have HZ := Lib.hid hz
  clear hs hz
  obtain ⟨v, hv⟩ : ∃ v, mayFs fs = v := ⟨_, rfl⟩
  rw [hv] at HC
  have HMV := Lib.hid hv
  clear hv
  go_enter Tryz.func31, Tryz.ntmps31
  go_wp2_with fail
  refine HC.out.mono ?_
  rintro en w1 ⟨rfl, hb1⟩
  have HB1 := Lib.hid hb1
  have HS1 := Lib.hid (HS0.out.next hb1)
  clear hb1 HC HS0
  cases v
  · go_wp2
    go_ret2
    exact ⟨⟨_, _, rfl, .inr ⟨HMV.out, rfl, rfl⟩⟩, HB1.out⟩
  go_wp2
  go_loopg [6, 8, 14] fs.length (fun g x6 _ x14 wr => ∃ (j : Nat) (ps : List (FactP × Value)), OwnF wr w1.heap.size x6 ps ∧ x14 = .int .i64 j ∧ j + g = fs.length ∧ Hid (ps.map (·.1) = atL t (fs.take j)) ∧ ps.length ≤ j ∧ Hid (Below w1.heap.size w1 wr))
  case atStart => exact ⟨0, [], ownF_nil _ _, rfl, by omega, rfl, Nat.le_refl _, Below.refl _ _⟩
  case round =>
    obtain ⟨j, ps, ho, rfl, hj, HP, hpl, HB⟩ := hrel
    cases gk with
    | zero =>
      have hjz : ¬ ((j : Int) < (fs.length : Int)) := by omega
      have HE : Hid (ps.map (·.1) = atL t fs) := by
        have := HP.out
        rwa [List.take_of_length_le (by omega)] at this
      have hfv := ho.fv
      rw [HE.out] at hfv
      obtain ⟨A9, c9, rfl, _⟩ := id hfv
      have HFV := Lib.hid hfv
      have HBW := Lib.hid (HB1.out.trans (HB.out.mono HB1.out.size))
      clear hfv ho
      go_wp2
      go_ret2
      exact ⟨⟨_, _, rfl, .inl ⟨HMV.out, rfl, HFV.out⟩⟩, HBW.out⟩
    | succ g =>
      have hjz : (j : Int) < (fs.length : Int) := by omega
      have hjn : j < fs.length := by omega
      obtain ⟨b, o, sv, rfl, hlt, hc, hsv⟩ := fva_at (HS1.out.next HB.out) hjn
      obtain ⟨f, hf⟩ : ∃ f, fs[j] = f := ⟨_, rfl⟩
      rw [hf] at hc hsv
      have HTK : Hid (fs.take (j + 1) = fs.take j ++ [f]) := by show _ = _; rw [List.take_succ_eq_append_getElem hjn, hf]
      have hfm : f ∈ fs := by rw [← hf]; exact List.getElem_mem _
      have hset : setB f.l = true := by
        have := (of_decide_eq_true HMV.out).1 f hfm
        unfold mayF at this
        simp only [Bool.and_eq_true] at this
        exact this.2
      have hzf := HZ.out f hfm
      obtain ⟨As, cs, rfl, hsl, _⟩ := hsv
      have c0 := hc.1
      have c1 := hc.2.1
      have c2 := hc.2.2.1
      have c3 := hc.2.2.2.1
      have c4 := hc.2.2.2.2.1
      have c5 := hc.2.2.2.2.2
      have hsz := HB.out.size
      obtain ⟨wa, hwa⟩ : ∃ wa, wr.alloc (.cells #[.int .i64 f.e, .int .i64 f.a, .int .i64 f.k, .int .i64 f.m, .string f.s, .slice As f.l.length cs] 67) = wa := ⟨_, rfl⟩
      have hba : Below wr.heap.size wr wa := by rw [← hwa]; exact (Below.refl _ wr).alloc (Nat.le_refl _) _
      have hxa : FcBx wa wr.heap.size f (.slice As f.l.length cs) := by rw [← hwa]; exact fcBx_new wr f _
      have HOA := Lib.hid (ho.next hba)
      have HNE : Hid (∀ g u, (u : Value) = u → g ∈ ([] : List Nat) → False) := fun g u _ h => by cases h
      have hrow : ∀ x6 : Value, OwnF wr w1.heap.size x6 ps → ∀ g, x6.ownBlock = some g → g ≠ wr.heap.size := fun x6 h g e => by have := (World.ownsRow.lt h.1 g e).2; omega
      have HRW := Lib.hid (hrow _ ho)
      have HXA := Lib.hid hxa
      have HBA := Lib.hid (HB.out.trans (hba.mono hsz))
      have HSA := Lib.hid ((hsl.next hba (Nat.le_refl _)).more hba.size)
      have HCL := Lib.hid (fun X (h : SlS X X.heap.size As f.l) => cloneS_any As cs f.l X h hzf.2)
      obtain ⟨is, his⟩ : ∃ v, innB f.l t = v := ⟨_, rfl⟩
      have HHS := Lib.hid (has_is As cs f.l t wa is (by rw [hset, his]; rfl) HSA.out hzf.2)
      have HIS := Lib.hid his
      have x5 := hxa.k5
      clear hc hsl hf hfm hset hba hxa his ho hrow
      go_upto_region 7 with (fail)
      try rw [hwa]
      clear hwa c0 c1 c2 c3 c4 c5
      go_wp2_with fail
      refine HHS.out.mono ?_
      rintro en w2 ⟨rfl, hb2⟩
      have HB2 := Lib.hid (HBA.out.trans (hb2.mono HBA.out.size))
      have HX2 := Lib.hid (HXA.out.next hb2)
      have HO2 := Lib.hid (HOA.out.next hb2)
      have HS2 := Lib.hid ((HSA.out.next hb2 (Nat.le_refl _)).more hb2.size)
      clear hb2 HHS HXA HOA HSA x5
      cases is
      · have HN : Hid (atL t (fs.take (j + 1)) = atL t (fs.take j)) := by
          show _ = _
          unfold atL
          rw [HTK.out, List.filter_append]
          simp [HIS.out]
        go_wp2
        go_roundg g
        case measure => omega
        case rel => exact ⟨j + 1, ps, HO2.out, by go_num, by omega, by rw [HN.out]; exact HP.out, by omega, HB2.out⟩
      · have HN : Hid (atL t (fs.take (j + 1)) = atL t (fs.take j) ++ [f]) := by
          show _ = _
          unfold atL
          rw [HTK.out, List.filter_append]
          simp [HIS.out]
        have x5 := HX2.out.k5
        have HC2 := Lib.hid (HCL.out w2 HS2.out)
        go_wp2_with fail
        refine HC2.out.mono ?_
        rintro en w3 ⟨v3, rfl, ho3, hb3⟩
        have HB3 := Lib.hid (HB2.out.trans (hb3.mono HB2.out.size))
        have hx3 := HX2.out.next hb3
        have hsv3 := ownS_sv ho3
        obtain ⟨A3, c3, rfl, _⟩ := id hsv3
        have hx4 : FcBx (w3.setCell ⟨wr.heap.size, 5, none⟩ (.slice A3 f.l.length c3)) wr.heap.size f (.slice A3 f.l.length c3) := by
          obtain ⟨hlt, hk⟩ := Array.getElem?_eq_some_iff.1 hx3
          show (w3.heap.modify wr.heap.size _)[wr.heap.size]? = _
          rw [Array.getElem?_eq_getElem (by rw [Array.size_modify]; exact hlt), Array.getElem_modify_self, hk]
          rfl
        have HO4 := Lib.hid ((HO2.out.next hb3).boxAt (u := .slice A3 f.l.length c3) hx3 HRW.out)
        have hsv4 : SV (w3.setCell ⟨wr.heap.size, 5, none⟩ (.slice A3 f.l.length c3)) (.slice A3 f.l.length c3) f.l := hsv3.off (row := some wr.heap.size) ⟨rfl, rfl, rfl, by simp, fun k _ h => Below.heap_setCell w3 ⟨wr.heap.size, 5, none⟩ _ k (fun e => h (by rw [e]))⟩ fun r e cs fr hc => by
          cases e
          rw [show w3.heap[wr.heap.size]? = _ from hx3] at hc
          injection hc with hc
          injection hc with _ h2 _
          exact absurd h2 (by decide)
        have HB4 : Hid (Below w1.heap.size w1 (w3.setCell ⟨wr.heap.size, 5, none⟩ (.slice A3 f.l.length c3))) := HB3.out.setCell (p := ⟨wr.heap.size, 5, none⟩) hsz _
        obtain ⟨w4, hw4⟩ : ∃ w4, w3.setCell ⟨wr.heap.size, 5, none⟩ (.slice A3 f.l.length c3) = w4 := ⟨_, rfl⟩
        rw [hw4] at hx4 HO4 hsv4 HB4
        have y5 := hx3.k5
        have yf : w3.frozen? ⟨wr.heap.size, 5, none⟩ = false := by unfold FcBx at hx3; simp [World.frozen?, hx3]
        have HX4 := Lib.hid hx4
        have HV4 := Lib.hid hsv4
        have hs4 := HB4.out.size
        clear hb3 hx3 hsv3 hx4 hsv4 ho3 x5 HC2
        go_upto_region 9 with (fail)
        try rw [hw4]
        clear hw4 y5 yf
        have z0 := HX4.out.k0
        have z1 := HX4.out.k1
        have z2 := HX4.out.k2
        have z3 := HX4.out.k3
        have z4 := HX4.out.k4
        have z5 := HX4.out.k5
        go_wp2_with (at_builtin; go_loud (refine wpList_append_own _ rfl _ _ 26 rfl w1.heap.size 67 i0 (.agg #[.int .i64 0, .int .i64 0, .int .i64 0, .int .i64 0, .string ⟨#[]⟩, .slice none 0 0]) 6 72 Tryz.underlying26 hi hz0 hz1 hz2 rfl (by decide) _ _ _ rfl (World.ownsRow.alloc HO4.out.1 _) ⟨w4.heap.size, 0, none⟩ 1 1 (cellsF (f, .slice A3 f.l.length c3)) rfl rfl (fun j u h => cell_lit w4 #[.int .i64 f.e, .int .i64 f.a, .int .i64 f.k, .int .i64 f.m, .string f.s, .slice A3 f.l.length c3] 67 j u h) (cellsF_one ⟨_, _, _, rfl⟩) (by omega) (by omega) (by simp; omega) ?_); intro v' w5 hown' hgrow _; have HO5 := Lib.hid (HO4.out.push HV4.out hown' hgrow); have HB5 := Lib.hid (HB4.out.trans (((Below.refl w1.heap.size w4).alloc hs4 (.cells #[.int .i64 f.e, .int .i64 f.a, .int .i64 f.k, .int .i64 f.m, .string f.s, .slice A3 f.l.length c3] 67)).grown hgrow (by simp; omega) (fun q hq => (World.ownsRow.lt HO4.out.1 q hq).1))); clear hown' hgrow)
        go_roundg g
        case measure => omega
        case rel => exact ⟨j + 1, ps ++ [(f, .slice A3 f.l.length c3)], HO5.out, by go_num, by omega, by rw [HN.out, List.map_append, HP.out]; rfl, by rw [List.length_append, List.length_singleton]; omega, HB5.out⟩
end Go.Proofs.YthdjlaombbeagaaGreat

/-
  CONTRACT of the document's own answer: At.
-/
namespace Go.Proofs.YthdjlaombbeagaaGreat
open Go.RowKit Go.Shelf

/-- a value that reads as spans, in blocks below M -/
def SVm (W : World) (M : Nat) (v : Value) (l : List Sp) : Prop := ∃ A c, v = .slice A l.length c ∧ SlS W M A l ∧ l.length ≤ c ∧ c ≤ maxLen
theorem SVm.next {W W' : World} {M B : Nat} {v : Value} {l : List Sp} (h : SVm W M v l) (hb : Below B W W') (hM : M ≤ B) : SVm W' M v l := by
  obtain ⟨A, c, e, hs, h2⟩ := h
  exact ⟨A, c, e, hs.next hb hM, h2⟩
/-- a row of facts of the call's own, whose spans lie below M -/
def OwnA (W : World) (M : Nat) (v : Value) (ps : List (FactP × Value)) : Prop := W.ownsRow M 67 6 v ps.length (ps.flatMap cellsF) ∧ ∀ p ∈ ps, SVm W M p.2 p.1.l
theorem ownA_nil (W : World) (M : Nat) : OwnA W M (.slice none 0 0) [] := ⟨World.ownsRow_nil _ _ _ _, fun _ h => by cases h⟩
theorem OwnA.next {W W' : World} {M : Nat} {v : Value} {ps : List (FactP × Value)} (h : OwnA W M v ps) (hM : M ≤ W.heap.size) (hb : Below W.heap.size W W') : OwnA W' M v ps := by
  refine ⟨⟨h.1.1, ?_⟩, fun p hp => (h.2 p hp).next hb hM⟩
  rcases h.1.2 with h | ⟨g, cap, cur, h1, h2, h3, h4⟩
  · exact .inl h
  · exact .inr ⟨g, cap, cur, h1, h2, (hb.block g (Array.getElem?_eq_some_iff.1 h3).1).trans h3, h4⟩
theorem OwnA.fva {W : World} {M : Nat} {v : Value} {ps : List (FactP × Value)} (h : OwnA W M v ps) (hM : M ≤ W.heap.size) : FVa W v (ps.map (·.1)) := by
  rcases h.1.2 with ⟨rfl, h0⟩ | ⟨g, cap, cur, rfl, hgB, hgb, hlc, hcm, _⟩
  · have : ps = [] := List.length_eq_zero_iff.1 h0
    subst this
    exact ⟨none, 0, rfl, fun hl => absurd rfl hl, Nat.le_refl _, Nat.zero_le _⟩
  · refine ⟨_, _, by rw [List.length_map], fun _ => ⟨g, 0, rfl, (Array.getElem?_eq_some_iff.1 hgb).1, fun j x hx => ?_⟩, by rw [List.length_map]; exact hlc, hcm⟩
    rw [List.getElem?_map] at hx
    obtain ⟨p, hp, rfl⟩ := Option.map_eq_some_iff.1 hx
    have hc : ∀ i u, i < 6 → (cellsF p)[i]? = some u → W.cell? ⟨g, 0 + j * 6 + i, none⟩ = some u := fun i u hi hu => by
      have := World.ownsRow.cells h.1 (g := g) rfl (j * 6 + i) u (by rw [flatG (enc := cellsF) (k := 6) (fun _ => rfl) hi, hp]; exact hu)
      rw [addI] at this
      rw [show (0 : Nat) + j * 6 + i = 0 + (j * 6 + i) by omega]
      exact this
    obtain ⟨Aq, cq, e, hs, h2⟩ := h.2 p (List.mem_of_getElem? hp)
    exact ⟨p.2, ⟨hc 0 _ (by decide) rfl, hc 1 _ (by decide) rfl, hc 2 _ (by decide) rfl, hc 3 _ (by decide) rfl, hc 4 _ (by decide) rfl, hc 5 _ (by decide) rfl⟩, Aq, cq, e, hs.more hM, h2⟩
theorem OwnA.snoc {W W' : World} {M : Nat} {v v' : Value} {ps : List (FactP × Value)} {p : FactP × Value} (h : OwnA W M v ps) (hp : SVm W M p.2 p.1.l) (ho : W'.ownsRow M 67 6 v' (ps.length + 1) (ps.flatMap cellsF ++ cellsF p)) (hb : Below M W W') : OwnA W' M v' (ps ++ [p]) := by
  refine ⟨by rw [List.length_append, List.flatMap_append]; simpa using ho, fun q hq => ?_⟩
  rcases List.mem_append.1 hq with hq | hq
  · exact (h.2 q hq).next hb (Nat.le_refl _)
  · rw [List.mem_singleton.1 hq]; exact hp.next hb (Nat.le_refl _)
set_option maxRecDepth 100000 in
set_option maxHeartbeats 4000000 in
/-- CONTRACT of the document's own answer: At. -/
theorem refAt_any (t : Int) (A : Option Addr) (c : Nat) (fs : List FactP) (w : World) (hs : FVa w (.slice A fs.length c) fs) (hl : fs.length ≤ 100000) (hz : ∀ f ∈ fs, f.s.size ≤ maxLen ∧ f.l.length ≤ 100000) :
    Calls Tryz.prog 32 #[.slice A fs.length c, .int .i64 t] w fun e w' => (∃ v ec, e = .returned (.tuple #[v, .int .i64 ec]) ∧ ((mayFs fs = true ∧ ec = 0 ∧ FVa w' v (atL t fs)) ∨ (mayFs fs = false ∧ ec = 60 ∧ v = .slice none 0 0))) ∧ Below w.heap.size w w' := by
  obtain ⟨i0, hi, hz0, hz1, hz2⟩ := info_parts infoF
  have hmx : 2000000000000 ≤ maxLen := by decide
  have HM := Lib.hid (refMayF_any A c fs w hs hl hz)
  have HS := Lib.hid hs
  have HZ := Lib.hid hz
  obtain ⟨v, hv⟩ : ∃ v, mayFs fs = v := ⟨_, rfl⟩
  rw [hv] at HM
  have HV := Lib.hid hv
  clear hs hz hv
  go_enter Tryz.func32, Tryz.ntmps32
  go_wp2_with fail
  refine HM.out.mono ?_
  rintro e9 w1 ⟨rfl, hb1⟩
  have HB1 := Lib.hid hb1
  clear hb1
  cases v
  · go_wp2
    go_ret2
    exact ⟨⟨_, _, rfl, .inr ⟨HV.out, rfl, rfl⟩⟩, HB1.out⟩
  · go_wp2
    go_loopg [7, 8] fs.length (fun g x y wr => ∃ (j : Nat) (ps : List (FactP × Value)), y = .int .i64 j ∧ j + g = fs.length ∧ Hid (OwnA wr w.heap.size x ps) ∧ Hid (ps.map (·.1) = atL t (fs.take j)) ∧ Hid (ps.length ≤ j) ∧ Hid (Below w.heap.size w wr))
    case atStart => exact ⟨0, [], rfl, by omega, ownA_nil _ _, rfl, Nat.le_refl _, HB1.out⟩
    case round =>
      obtain ⟨j, ps, rfl, hj, HO, HP, HPL, HB⟩ := hrel
      cases gk with
      | zero =>
        have hjz : ¬ ((j : Int) < (fs.length : Int)) := by omega
        have HE : Hid (ps.map (·.1) = atL t fs) := by
          have := HP.out
          rwa [List.take_of_length_le (by omega)] at this
        have hfv := HO.out.fva HB.out.size
        rw [HE.out] at hfv
        obtain ⟨A9, c9, rfl, _⟩ := id hfv
        have HFV := Lib.hid hfv
        clear hfv
        go_wp2
        go_ret2
        exact ⟨⟨_, _, rfl, .inl ⟨HV.out, rfl, HFV.out⟩⟩, HB.out⟩
      | succ g =>
        have hjz : (j : Int) < (fs.length : Int) := by omega
        have hjn : j < fs.length := by omega
        obtain ⟨b, o, sv, rfl, hlt, hc, hsv⟩ := fva_at HS.out hjn
        obtain ⟨f, hf⟩ : ∃ f, fs[j] = f := ⟨_, rfl⟩
        rw [hf] at hc hsv
        have HTK : Hid (fs.take (j + 1) = fs.take j ++ [f]) := by show _ = _; rw [List.take_succ_eq_append_getElem hjn, hf]
        have hzf := HZ.out f (by rw [← hf]; exact List.getElem_mem _)
        obtain ⟨As, cs, rfl, hsl, hs2⟩ := id hsv
        have HSM : Hid (SVm wr w.heap.size (.slice As f.l.length cs) f.l) := (show SVm w w.heap.size _ f.l from ⟨As, cs, rfl, hsl, hs2⟩).next HB.out (Nat.le_refl _)
        have hcr := hc.next HB.out hlt
        have HLT := Lib.hid hlt
        have HCV := Lib.hid hc
        have HSL : Hid (SlS wr w.heap.size As f.l) := hsl.next HB.out (Nat.le_refl _)
        have HRI := Lib.hid (fun X (h : SlS X w.heap.size As f.l) => refIn_any As cs f.l t X w.heap.size h (by omega))
        obtain ⟨is, his⟩ : ∃ v, innB f.l t = v := ⟨_, rfl⟩
        rw [his] at HRI
        have HIS := Lib.hid his
        have c5 := hcr.2.2.2.2.2
        clear hf hc hsv hsl hs2 hcr hlt hzf his
        go_wp2_with fail
        refine (HRI.out _ HSL.out).mono ?_
        rintro e9 w2 ⟨rfl, nq, rfl⟩
        clear c5 HRI
        have HB2 : Hid (Below w.heap.size w (wr.drewN nq)) := below_ind HB.out nq
        have HO2 := Lib.hid (HO.out.next HB.out.size (below_ind (Below.refl wr.heap.size wr) nq))
        have HSM2 : Hid (SVm (wr.drewN nq) w.heap.size (.slice As f.l.length cs) f.l) := HSM.out.next (below_ind (Below.refl w.heap.size wr) nq) (Nat.le_refl _)
        cases is
        · have HN : Hid (atL t (fs.take (j + 1)) = atL t (fs.take j)) := by
            show _ = _
            unfold atL
            rw [HTK.out, List.filter_append]
            simp [HIS.out]
          go_wp2
          go_roundg g
          case measure => omega
          case rel => exact ⟨j + 1, ps, by go_num, by omega, HO2.out, by show _ = _; rw [HN.out, HP.out], by have := HPL.out; show _ ≤ _; omega, HB2.out⟩
        · have HN : Hid (atL t (fs.take (j + 1)) = atL t (fs.take j) ++ [f]) := by
            show _ = _
            unfold atL
            rw [HTK.out, List.filter_append]
            simp [HIS.out]
          have q := HCV.out.next HB2.out HLT.out
          have c0 := q.1
          have c1 := q.2.1
          have c2 := q.2.2.1
          have c3 := q.2.2.2.1
          have c4 := q.2.2.2.2.1
          have c5 := q.2.2.2.2.2
          clear q
          have hbl := (Below.refl (wr.drewN nq).heap.size (wr.drewN nq)).alloc (Nat.le_refl _) (.cells #[.int .i64 f.e, .int .i64 f.a, .int .i64 f.k, .int .i64 f.m, .string f.s, .slice As f.l.length cs] 67)
          have HOA := Lib.hid (HO2.out.next HB2.out.size hbl)
          have HSA := Lib.hid (HSM2.out.next hbl HB2.out.size)
          have HBA := Lib.hid (HB2.out.trans (hbl.mono HB2.out.size))
          clear hbl
          go_wp2_with (at_builtin; refine wpList_append_own _ rfl _ _ 26 rfl w.heap.size 67 i0 (.agg #[.int .i64 0, .int .i64 0, .int .i64 0, .int .i64 0, .string ⟨#[]⟩, .slice none 0 0]) 6 72 Tryz.underlying26 hi hz0 hz1 hz2 rfl (by decide) _ _ _ rfl HOA.out.1 ⟨(wr.drewN nq).heap.size, 0, none⟩ 1 1 (cellsF (f, .slice As f.l.length cs)) rfl rfl (fun j u h => cell_lit (wr.drewN nq) #[.int .i64 f.e, .int .i64 f.a, .int .i64 f.k, .int .i64 f.m, .string f.s, .slice As f.l.length cs] 67 j u h) (cellsF_one ⟨_, _, _, rfl⟩) (by have := HPL.out; omega) (by have := HPL.out; omega) HBA.out.size ?_; intro v1 w8 hown hgrow hnil; have HB8 : Hid (Below w.heap.size _ w8) := (Below.refl _ _).grown hgrow HBA.out.size (fun k hk => (World.ownsRow.lt HOA.out.1 k hk).1); have HO8 : Hid (OwnA w8 w.heap.size v1 (ps ++ [(f, .slice As f.l.length cs)])) := HOA.out.snoc HSA.out hown HB8.out; have HBE := Lib.hid (HBA.out.trans HB8.out); clear hown hgrow hnil)
          go_roundg g
          case measure => omega
          case rel => exact ⟨j + 1, ps ++ [(f, .slice As f.l.length cs)], by go_num, by omega, HO8, by show _ = _; rw [List.map_append, HP.out, HN.out]; rfl, by rw [List.length_append]; simp only [List.length_singleton]; have := HPL.out; show _ ≤ _; omega, HBE.out⟩

end Go.Proofs.YthdjlaombbeagaaGreat

/-
  CONTRACTS: facts.Of at an instant, and of a history; the chapter's datoms as the call's own.
-/
namespace Go.Proofs.YthdjlaombbeagaaGreat
open Go.RowKit Go.Shelf

theorem mayFs_size9 {fs : List FactP} (h : mayFs fs = true) : ∀ f ∈ fs, f.s.size ≤ 1000 := fun f hf => by
  have := (of_decide_eq_true h).1 f hf
  unfold mayF at this
  simp only [Bool.and_eq_true] at this
  exact mayB_size (mayD_val this.1.1)
/-- what Of answers of a view at an instant -/
def OfA (l : List Dat) (a s t : Int) (W : World) (u : Value) (ec : Int) : Prop :=
  (markB a = true ∧ markB s = true ∧ ((ec = 60 ∧ u = .slice none 0 0 ∧ (notMay (l.filter (seesB a s)) = true ∨ ¬ Goes (sortsD 1 (l.filter (seesB a s))))) ∨
    (ec = 0 ∧ notMay (l.filter (seesB a s)) = false ∧ Goes (sortsD 1 (l.filter (seesB a s))) ∧ ∃ fs, FoldsTo (runsL triD (sortsD 1 (l.filter (seesB a s)))) fs ∧ FV W u (atL t fs)))) ∨ ((markB a && markB s) = false ∧ ec = 2 ∧ u = .slice none 0 0)
set_option maxRecDepth 100000 in
set_option maxHeartbeats 2000000 in
theorem ofAt_any (a s v : Int) (A : Option Addr) (c : Nat) (l : List Dat) (w : World) (hs : SlD w w.heap.size A l) (hl : l.length ≤ 5000) (hz : ∀ d ∈ l, d.s.size ≤ maxLen) (hk : ∀ d ∈ l, SpOk (spD d)) (hfew : (l.filter (seesB a s)).length ≤ 3000 ∨ notMay (l.filter (seesB a s)) = true) :
    Calls Tryz.prog 9 #[.slice A l.length c, .agg #[.int .i64 a, .int .i64 s, .int .i64 v, .bool true, .bool false]] w fun e w' => ∃ u ec, e = .returned (.tuple #[u, .int .i64 ec]) ∧ OfA l a s v w' u ec ∧ Below w.heap.size w w' := by
  obtain ⟨w0, hw0⟩ : ∃ w0, w.alloc (.cells #[.int .i64 a, .int .i64 s, .int .i64 v, .bool true, .bool false] 24) = w0 := ⟨_, rfl⟩
  have hb0 : Below w.heap.size w w0 := by rw [← hw0]; exact (Below.refl _ _).alloc (Nat.le_refl _) _
  have HB0 := Lib.hid hb0
  have HVW : Hid (VwAt w0 w.heap.size a s v true false) := by rw [← hw0]; exact heap_alloc_new w _
  have HDT := Lib.hid (datomsF_any a s v true false A c l w0 ((hs.next hb0 (Nat.le_refl _)).more hb0.size) (by omega))
  have HZ := Lib.hid hz
  have HK := Lib.hid hk
  have HW := Lib.hid hfew
  have k0 := HVW.out.k0
  have k1 := HVW.out.k1
  have k2 := HVW.out.k2
  have k3 := HVW.out.k3
  have k4 := HVW.out.k4
  clear hs hz hk hfew hb0
  go_enter Tryz.func9, Tryz.ntmps9
  go_upto_region 1 with (fail)
  try rw [hw0]
  clear hw0
  go_wp2_with fail
  refine HDT.out.mono ?_
  rintro e w1 ⟨⟨A1, c1, n1, ec1, rfl, ⟨hma, hms, rfl, rfl, h1⟩ | ⟨hno, rfl, rfl, rfl, rfl⟩⟩, hb1⟩
  · have HM := Lib.hid (And.intro hma hms)
    have HB1 := Lib.hid (HB0.out.trans (hb1.mono HB0.out.size))
    have hvz := HVW.out.next hb1 HVW.out.lt
    have HBX := Lib.hid hb1.size
    have HS1 := Lib.hid h1
    obtain ⟨S, hS⟩ : ∃ S, sortsD 1 (l.filter (seesB a s)) = S := ⟨_, rfl⟩
    have hmem : ∀ x, x ∈ S ↔ x ∈ l.filter (seesB a s) := fun x => by rw [← hS]; exact (sorts_ups _).2 x
    have hml : ∀ x ∈ S, x ∈ l := fun x hx => (List.mem_filter.1 ((hmem x).1 hx)).1
    have hfs := sorts_few (l.filter (seesB a s))
    have hfl := List.length_filter_le (seesB a s) l
    have hSS : (sortsD 1 S).length ≤ S.length := sorts_few S
    have HFU := Lib.hid (fold_u A1 c1 S w1 (by rw [← hS]; exact h1) (by rw [← hS]; omega) (fun d hd => HZ.out d (hml d hd)) (fun d hd => HK.out d (hml d hd)) (fun h => by
      rw [hS] at hfs
      rcases HW.out with h2 | h2
      · exact ⟨by omega, by omega⟩
      · rw [same_may hmem, h2] at h; cases h))
    have HME := Lib.hid hmem
    rw [hS] at HS1
    rw [hS]
    have k3' := hvz.k3
    have k2' := hvz.k2
    clear h1 hma hms hb1 hvz hS hmem hml hfs hfl hSS k0 k1 k2 k3 k4
    go_wp2_with fail
    refine HFU.out.mono ?_
    rintro e w2 ⟨u, ec, rfl, hfu, hb2⟩
    have HB2 := Lib.hid (HB1.out.trans (hb2.mono HB1.out.size))
    have k3 := (hb2.cell (p := ⟨w.heap.size, 3, none⟩) (Nat.lt_of_lt_of_le HVW.out.lt (Nat.le_trans (Nat.le_refl _) (by have h1 := HVW.out.lt; have h2 := HB0.out.size; have h3 := HBX.out; omega)))).trans k3'
    have HU : Hid (FoldU (l.filter (seesB a s)) w2 u ec) := by
      have := hfu
      unfold FoldU at this ⊢
      rwa [same_may HME.out, same_sorts HME.out] at this
    have hbX := Lib.hid hb2
    have HLT : Hid (w.heap.size < w1.heap.size) := by show _ < _; exact Nat.lt_of_lt_of_le HVW.out.lt HBX.out
    clear hb2 k3' HFU
    rcases hfu with ⟨rfl, rfl, hbad⟩ | ⟨rfl, hm9, hg9, fs, hf9, hv9, hfl9, hfn9⟩
    · have HBD : Hid (notMay (l.filter (seesB a s)) = true ∨ ¬ Goes (sortsD 1 (l.filter (seesB a s)))) := by rw [same_may HME.out, same_sorts HME.out] at hbad; exact hbad
      clear hbad
      go_wp2
      go_ret2
      exact ⟨_, _, rfl, .inl ⟨HM.out.1, HM.out.2, .inl ⟨rfl, rfl, HBD.out⟩⟩, HB2.out⟩
    · have hmf := foldsTo_may hm9 hf9
      rw [same_may HME.out] at hm9
      rw [same_sorts HME.out] at hg9 hf9
      obtain ⟨A5, c5, rfl, _⟩ := id hv9
      have k2 := (hbX.out.cell (p := ⟨w.heap.size, 2, none⟩) HLT.out).trans k2'
      have HAT := Lib.hid (at_any v A5 c5 fs w2 hv9.a (by omega) (fun f hf => ⟨Nat.le_trans (mayFs_size9 hmf f hf) (by decide), by have := hfl9 f hf; omega⟩))
      rw [hmf] at HAT
      have HG := Lib.hid (And.intro hm9 (And.intro hg9 hf9))
      clear hmf hm9 hg9 hf9 hv9 hfl9 HU
      go_wp2_with fail
      refine HAT.out.mono ?_
      rintro e w3 ⟨⟨v3, ec3, rfl, ⟨_, rfl, hv3⟩ | ⟨hno, _⟩⟩, hb3⟩
      · have HV3 := Lib.hid hv3
        have HB3 := Lib.hid (HB2.out.trans (hb3.mono HB2.out.size))
        obtain ⟨A6, c6, rfl, _⟩ := id hv3
        clear hv3 hb3
        go_wp2
        go_ret2
        exact ⟨_, _, rfl, .inl ⟨HM.out.1, HM.out.2, .inr ⟨rfl, HG.out.1, HG.out.2.1, fs, HG.out.2.2, HV3.out⟩⟩, HB3.out⟩
      · cases hno
  · have HN := Lib.hid hno
    have HB1 := Lib.hid (HB0.out.trans (hb1.mono HB0.out.size))
    clear hb1 hno
    go_wp2
    go_ret2
    exact ⟨_, _, rfl, .inr ⟨HN.out, rfl, rfl⟩, HB1.out⟩
set_option maxRecDepth 100000 in
theorem ofHist_any (a s v : Int) (at_ : Bool) (A : Option Addr) (n c : Nat) (w : World) :
    Calls Tryz.prog 9 #[.slice A n c, .agg #[.int .i64 a, .int .i64 s, .int .i64 v, .bool at_, .bool true]] w fun e w' => e = .returned (.tuple #[.slice none 0 0, .int .i64 2]) ∧ Below w.heap.size w w' := by
  go_enter Tryz.func9, Tryz.ntmps9
  go_wp2
  go_ret2
  exact ⟨rfl, (Below.refl _ w).alloc (Nat.le_refl _) _⟩
end Go.Proofs.YthdjlaombbeagaaGreat

/-
  CONTRACT: the document's Of (layer 6).
-/
namespace Go.Proofs.YthdjlaombbeagaaGreat
open Go.RowKit

theorem sorts_self (l : List Dat) : sortsD 1 (sortsD 1 l) = sortsD 1 l := ups_uniq (ordD_is (by decide)) _ _ (sorts_ups _).1 (sorts_ups l).1 fun z => (sorts_ups (sortsD 1 l)).2 z
/-- what the document's fold gives may be, and is not much -/
theorem foldRs_mem {l : List Dat} {f : FactP} (h : f ∈ foldRs l l) : RiseF (foldRs l l) ∧ ∃ d ∈ l, f = factD d (spR l d) ∧ spR l d ≠ [] := by
  obtain ⟨k1, k2, _, _⟩ := foldRs_is (l := l) l l [] (fun _ h => h) List.Pairwise.nil (fun _ h => by cases h)
  exact ⟨k1, k2 f h⟩
theorem foldRs_may {l : List Dat} (hm : notMay l = false) : mayFs (foldRs l l) = true := by
  have h1 : ∀ y ∈ l, 1 ≤ y.t := fun y hy => may_t (notMay_all hm hy)
  obtain ⟨k1, k2, _, _⟩ := foldRs_is (l := l) l l [] (fun _ h => h) List.Pairwise.nil (fun _ h => by cases h)
  refine decide_eq_true ⟨fun f hf => ?_, k1⟩
  obtain ⟨d, hd, rfl, hne⟩ := k2 f hf
  have hmd := notMay_all hm hd
  have hset := (spR_last d h1).1
  unfold mayF
  rw [Bool.and_eq_true_iff, Bool.and_eq_true_iff]
  refine ⟨⟨?_, decide_eq_true (List.length_pos_iff.2 hne)⟩, decide_eq_true hset⟩
  unfold mayD at hmd ⊢
  simp only [Bool.and_eq_true] at hmd ⊢
  exact ⟨⟨hmd.1.1, decide_eq_true (show (1 : Int) ≤ 1 ∧ (1 : Int) ≤ 1099511627776 by omega)⟩, decide_eq_true (show (0 : Int) < 1 by omega)⟩
theorem names_turn {l : List Dat} {z : Dat} (hz : z ∈ l) {t : Int} (ht : t ∉ endsD l) : Names z t ↔ Names z (t - 1) := by
  have h1 : t ≠ z.fr := fun e => ht (List.mem_flatMap.2 ⟨z, hz, by simp [e]⟩)
  have h2 : t ≠ z.til := fun e => ht (List.mem_flatMap.2 ⟨z, hz, by simp [e]⟩)
  unfold Names
  constructor <;> rintro ⟨a, b⟩ <;> constructor <;> omega
theorem spR_few {l : List Dat} (d : Dat) (h1 : ∀ y ∈ l, 1 ≤ y.t) : (spR l d).length ≤ l.length := by
  obtain ⟨hs, hi⟩ := spR_last d h1
  have ht : TurnsAt (endsD l) (Inn (spR l d)) := fun t ht => by
    rw [hi t, hi (t - 1)]
    constructor
    · rintro ⟨z, hz, k1, k2, k3, k4⟩
      exact ⟨z, hz, k1, k2, (names_turn hz ht).1 k3, fun y hy g1 g2 => k4 y hy g1 ((names_turn hy ht).2 g2)⟩
    · rintro ⟨z, hz, k1, k2, k3, k4⟩
      exact ⟨z, hz, k1, k2, (names_turn hz ht).2 k3, fun y hy g1 g2 => k4 y hy g1 ((names_turn hy ht).1 g2)⟩
  have := set_few2 hs ht
  rw [endsD_len] at this
  omega
theorem foldRs_few (l : List Dat) : ∀ (p : List Dat), (foldRs l p).length ≤ p.length := by
  have h : ∀ (p : List Dat) (out : List FactP), (p.foldl (fun out d => if spR l d = [] then out else putR out (factD d (spR l d))) out).length ≤ out.length + p.length := by
    intro p
    induction p with
    | nil => intro out; simp
    | cons x p ih =>
      intro out
      rw [List.foldl_cons, List.length_cons]
      refine Nat.le_trans (ih _) ?_
      split
      · omega
      · have := putR_len out (factD x (spR l x)); omega
  intro p
  have := h p []
  simpa [foldRs] using this
/-- datoms go together -/
def GoodL (L : List Dat) : Prop := notMay L = false ∧ Goes (sortsD 1 L)
theorem good_sorts (L : List Dat) : GoodL (sortsD 1 L) ↔ GoodL L := by
  have h1 : notMay (sortsD 1 L) = notMay L := by
    unfold notMay
    rw [Bool.eq_iff_iff, List.any_eq_true, List.any_eq_true]
    constructor
    · rintro ⟨d, hd, k⟩; exact ⟨d, ((sorts_ups L).2 d).1 hd, k⟩
    · rintro ⟨d, hd, k⟩; exact ⟨d, ((sorts_ups L).2 d).2 hd, k⟩
  unfold GoodL
  rw [h1, sorts_self]
def atIf (at_ : Bool) (v : Int) (fs : List FactP) : List FactP := if at_ then atL v fs else fs
/-- what the document's Of answers -/
def OfD (l : List Dat) (a s v : Int) (at_ hist : Bool) (W : World) (u : Value) (ec : Int) : Prop :=
  ((hist = true ∨ (markB a && markB s) = false) ∧ ec = 2 ∧ u = .slice none 0 0) ∨ (hist = false ∧ (markB a && markB s) = true ∧ ((ec = 60 ∧ u = .slice none 0 0 ∧ ¬ GoodL (l.filter (seesB a s))) ∨
    (ec = 0 ∧ GoodL (l.filter (seesB a s)) ∧ ∀ fs, FoldsTo (runsL triD (sortsD 1 (l.filter (seesB a s)))) fs → FVa W u (atIf at_ v fs) ∧ fs.length ≤ 400 ∧ ∀ f ∈ fs, f.l.length ≤ 400)))
def OfRE (w : World) (l : List Dat) (a s v : Int) (at_ hist : Bool) (e : Ending) (w' : World) : Prop := (∃ u ec, e = .returned (.tuple #[u, .int .i64 ec]) ∧ OfD l a s v at_ hist w' u ec) ∧ Below w.heap.size w w'
/-- what the document's fold of sorted datoms is -/
theorem fold_sorted {L : List Dat} (hg : GoodL L) (hl : L.length ≤ 400) {fs : List FactP} (hf : FoldsTo (runsL triD (sortsD 1 L)) fs) : foldRs (sortsD 1 L) (sortsD 1 L) = fs ∧ fs.length ≤ 400 ∧ ∀ f ∈ fs, f.l.length ≤ 400 := by
  have h2 := (good_sorts L).2 hg
  have e : foldRs (sortsD 1 L) (sortsD 1 L) = fs := fold_same h2.1 h2.2 (by rw [sorts_self]; exact hf)
  have hfew := sorts_few L
  refine ⟨e, ?_, fun f hfm => ?_⟩
  · rw [← e]
    have := foldRs_few (sortsD 1 L) (sortsD 1 L)
    omega
  · rw [← e] at hfm
    obtain ⟨_, d, hd, rfl, _⟩ := foldRs_mem hfm
    have := spR_few (l := sortsD 1 L) d (fun y hy => may_t (notMay_all h2.1 hy))
    show (spR (sortsD 1 L) d).length ≤ 400
    omega
theorem hasD_one (L : List Dat) : L.filter (hasD 1) = L := List.filter_eq_self.2 fun d _ => by unfold hasD; simp
set_option maxRecDepth 100000 in
set_option maxHeartbeats 4000000 in
theorem refOf_any (a s v : Int) (at_ hist : Bool) (A : Option Addr) (c : Nat) (l : List Dat) (w : World) (hs : SlD w w.heap.size A l) (hl : l.length ≤ 400) (hsz : ∀ d ∈ l, d.s.size ≤ maxLen) :
    Calls Tryz.prog 10 #[.slice A l.length c, .agg #[.int .i64 a, .int .i64 s, .int .i64 v, .bool at_, .bool hist]] w (OfRE w l a s v at_ hist) := by
  obtain ⟨w1, hw1⟩ : ∃ X, w.alloc (.cells #[.int .i64 a, .int .i64 s, .int .i64 v, .bool at_, .bool hist] 24) = X := ⟨_, rfl⟩
  have HV1 : Hid (VwAt w1 w.heap.size a s v at_ hist) := by rw [← hw1]; exact heap_alloc_new w _
  have HB1 : Hid (Below w.heap.size w w1) := by rw [← hw1]; exact (Below.refl _ _).alloc (Nat.le_refl _) _
  have HS := Lib.hid (fun X (hX : Below w.heap.size w X) => (hs.next hX (Nat.le_refl _)).more hX.size)
  have HSZ := Lib.hid hsz
  have HW := Lib.hid (wrong_any a s v at_ hist w1)
  have HWM := Lib.hid (wrong_mark a s)
  have c0 := HV1.out.k0
  have c1 := HV1.out.k1
  have c2 := HV1.out.k2
  have c3 := HV1.out.k3
  have c4 := HV1.out.k4
  clear hs hsz
  go_enter Tryz.func10, Tryz.ntmps10
  go_wp2_with fail
  try rw [hw1]
  clear hw1
  refine HW.out.mono ?_
  rintro e w2 ⟨rfl, hb2⟩
  have HB2 := Lib.hid hb2
  have HBW := Lib.hid (HB1.out.trans (hb2.mono HB1.out.size))
  have HV2 := Lib.hid (HV1.out.next hb2 HV1.out.lt)
  clear hb2 HW c0 c1 c2 c3 c4
  cases hwb : wrongB a s with
  | true =>
    have HF : Hid (OfRE w l a s v at_ hist (.returned (.tuple #[.slice none 0 0, .int .i64 2])) w2) := ⟨⟨_, _, rfl, .inl ⟨.inr (by have := HWM.out; rw [hwb] at this; cases hm : (markB a && markB s) with | false => rfl | true => rw [hm] at this; cases this), rfl, rfl⟩⟩, HBW.out⟩
    clear hwb
    go_wp2
    go_ret2
    exact HF.out
  | false =>
    have HMK : Hid ((markB a && markB s) = true) := by show _ = _; have := HWM.out; rw [hwb] at this; cases hm : (markB a && markB s) with | true => rfl | false => rw [hm] at this; cases this
    clear hwb
    have c4 := HV2.out.k4
    cases hist with
    | true =>
      have HF : Hid (OfRE w l a s v at_ true (.returned (.tuple #[.slice none 0 0, .int .i64 2])) w2) := ⟨⟨_, _, rfl, .inl ⟨.inl rfl, rfl, rfl⟩⟩, HBW.out⟩
      go_wp2
      go_ret2
      exact HF.out
    | false =>
      have HSM := Lib.hid (some_any a s v at_ false A c l w2 (HS.out w2 HBW.out) (by omega) HSZ.out)
      have c0 := HV2.out.k0
      have c1 := HV2.out.k1
      have c2 := HV2.out.k2
      have c3 := HV2.out.k3
      go_wp2_with fail
      refine HSM.out.mono ?_
      rintro e w3 ⟨v3, rfl, ho3, hb3⟩
      obtain ⟨L, hL⟩ : ∃ L, l.filter (seesB a s) = L := ⟨_, rfl⟩
      rw [hL, hasD_one] at ho3
      have HLL := Lib.hid hL
      have HLN : Hid (L.length ≤ 400) := by show _ ≤ _; rw [← hL]; exact Nat.le_trans (List.length_filter_le _ _) hl
      have HLZ : Hid (∀ d ∈ L, d.s.size ≤ maxLen) := fun d hd => by rw [← hL] at hd; exact HSZ.out d (List.mem_filter.1 hd).1
      obtain ⟨M, hM⟩ : ∃ M, putsG (ordD 1) L = M := ⟨_, rfl⟩
      have HM : Hid (sortsD 1 L = M) := by show _ = _; rw [← hM]; unfold sortsD; rw [hasD_one, if_pos (by decide)]
      rw [hM] at ho3
      obtain ⟨A3, c3', e3, hsl, _⟩ := ho3.form
      subst e3
      have HML : Hid (M.length ≤ 400) := by show _ ≤ _; have := sorts_few L; rw [HM.out] at this; have := HLN.out; omega
      have HMZ : Hid (∀ d ∈ M, d.s.size ≤ maxLen) := fun d hd => by rw [← HM.out] at hd; exact HLZ.out d (((sorts_ups L).2 d).1 hd)
      have HFD := Lib.hid (foldRd_any A3 c3' w3.heap.size M w3 hsl (Nat.le_refl _) HML.out HMZ.out)
      have HB3 := Lib.hid (HBW.out.trans (hb3.mono HBW.out.size))
      have HV3 := Lib.hid (HV2.out.next hb3 HV2.out.lt)
      clear hL hM ho3 hsl hb3 HSM c0 c1 c2 c3 c4
      go_wp2_with fail
      refine HFD.out.mono ?_
      rintro e w4 ⟨⟨v4, ec4, rfl, hfe⟩, hb4⟩
      have HB4 := Lib.hid (HB3.out.trans (hb4.mono HB3.out.size))
      have HV4 := Lib.hid (HV3.out.next hb4 HV3.out.lt)
      clear hb4 HFD
      have c3 := HV4.out.k3
      rcases hfe with ⟨rfl, rfl, hno⟩ | ⟨rfl, hyes, ps, hps, hpm⟩
      · have HF : Hid (OfRE w l a s v at_ false (.returned (.tuple #[.slice none 0 0, .int .i64 60])) w4) := ⟨⟨_, _, rfl, .inr ⟨rfl, HMK.out, .inl ⟨rfl, rfl, fun hg => hno (by rw [togL_is]; rw [HLL.out] at hg; have h2 := (good_sorts L).2 hg; rw [HM.out] at h2; exact h2)⟩⟩⟩, HB4.out⟩
        clear hno
        go_wp2
        go_ret2
        exact HF.out
      · have HGD : Hid (GoodL L) := by rw [togL_is] at hyes; refine (good_sorts L).1 ?_; rw [HM.out]; exact hyes
        have HFV := Lib.hid hps.fv
        rw [hpm] at HFV
        have HGM : Hid (notMay M = false) := by rw [togL_is] at hyes; exact hyes.1
        have HFS : Hid (∀ fs, FoldsTo (runsL triD (sortsD 1 L)) fs → foldRs M M = fs ∧ fs.length ≤ 400 ∧ ∀ f ∈ fs, f.l.length ≤ 400) := fun fs hf => by have := fold_sorted HGD.out HLN.out hf; rw [HM.out] at this; exact this
        clear hyes hps hpm
        cases at_ with
        | false =>
          have HF : Hid (OfRE w l a s v false false (.returned (.tuple #[v4, .int .i64 0])) w4) := ⟨⟨_, _, rfl, .inr ⟨rfl, HMK.out, .inr ⟨rfl, by rw [HLL.out]; exact HGD.out, fun fs hf => by rw [HLL.out] at hf; obtain ⟨e, k⟩ := HFS.out fs hf; exact ⟨by show FVa w4 v4 fs; rw [← e]; exact HFV.out.a, k⟩⟩⟩⟩, HB4.out⟩
          go_wp2
          go_ret2
          exact HF.out
        | true =>
          obtain ⟨F, hF⟩ : ∃ F, foldRs M M = F := ⟨_, rfl⟩
          have HFM := Lib.hid hF
          have HFL : Hid (F.length ≤ 100000) := by show _ ≤ _; rw [← hF]; have := foldRs_few M M; have := HML.out; omega
          have HFZ : Hid (∀ f ∈ F, f.s.size ≤ maxLen ∧ f.l.length ≤ 100000) := fun f hf => by
            rw [← hF] at hf
            obtain ⟨_, d, hd, rfl, _⟩ := foldRs_mem hf
            refine ⟨HMZ.out d hd, ?_⟩
            have := spR_few (l := M) d (fun y hy => may_t (notMay_all HGM.out hy))
            have := HML.out
            show (spR M d).length ≤ _
            omega
          have HMF : Hid (mayFs F = true) := by rw [← hF]; exact foldRs_may HGM.out
          rw [hF] at HFV
          obtain ⟨A4, c4', e4, _⟩ := id HFV.out
          subst e4
          have HAT := Lib.hid (refAt_any v A4 c4' F w4 HFV.out.a HFL.out HFZ.out)
          have c2 := HV4.out.k2
          clear hF
          go_wp2_with fail
          refine HAT.out.mono ?_
          rintro e w5 ⟨⟨v5, ec5, rfl, hq⟩, hb5⟩
          have HB5 := Lib.hid (HB4.out.trans (hb5.mono HB4.out.size))
          clear hb5 HAT c2 c3
          rcases hq with ⟨_, rfl, hv5⟩ | ⟨hno, _⟩
          · have HF : Hid (OfRE w l a s v true false (.returned (.tuple #[v5, .int .i64 0])) w5) := ⟨⟨_, _, rfl, .inr ⟨rfl, HMK.out, .inr ⟨rfl, by rw [HLL.out]; exact HGD.out, fun fs hf => by rw [HLL.out] at hf; obtain ⟨e, k⟩ := HFS.out fs hf; exact ⟨by show FVa w5 v5 (atL v fs); rw [← e, HFM.out]; exact hv5, k⟩⟩⟩⟩, HB5.out⟩
            clear hv5
            go_wp2
            go_ret2
            exact HF.out
          · rw [HMF.out] at hno; cases hno
end Go.Proofs.YthdjlaombbeagaaGreat

/-
  CONTRACT: the document's Same of two lists of facts that are equal, wherever their spans lie.
-/
namespace Go.Proofs.YthdjlaombbeagaaGreat
open Go.RowKit Go.Shelf

def SmSA (b o b' o' : Nat) (f : FactP) (sv sv' : Value) (W : World) : Prop := FcV W b o f sv ∧ FcV W b' o' f sv' ∧ SVa W sv f.l ∧ SVa W sv' f.l ∧ b < W.heap.size ∧ b' < W.heap.size
theorem SmSA.next {b o b' o' : Nat} {f : FactP} {sv sv' : Value} {W W' : World} (h : SmSA b o b' o' f sv sv' W) (hb : Below W.heap.size W W') : SmSA b o b' o' f sv sv' W' :=
  ⟨h.1.next hb h.2.2.2.2.1, h.2.1.next hb h.2.2.2.2.2, h.2.2.1.next hb, h.2.2.2.1.next hb, Nat.lt_of_lt_of_le h.2.2.2.2.1 hb.size, Nat.lt_of_lt_of_le h.2.2.2.2.2 hb.size⟩
set_option maxRecDepth 100000 in
set_option maxHeartbeats 4000000 in
theorem sameFa_any (A A' : Option Addr) (c c' : Nat) (fs : List FactP) (w : World) (hs : FVa w (.slice A fs.length c) fs) (hs' : FVa w (.slice A' fs.length c') fs) (hl : fs.length ≤ 100000) (hls : ∀ f ∈ fs, f.l.length ≤ 1048576) :
    Calls Tryz.prog 11 #[.slice A fs.length c, .slice A' fs.length c'] w fun e w' => e = .returned (.bool true) ∧ Below w.heap.size w w' := by
  have HS := Lib.hid (And.intro hs hs')
  have HL := Lib.hid hls
  clear hs hs' hls
  go_enter Tryz.func11, Tryz.ntmps11
  go_wp2
  go_loopg [5] fs.length (fun g i wr => ∃ j : Nat, i = .int .i64 j ∧ j + g = fs.length ∧ Hid (Below w.heap.size w wr))
  case atStart => exact ⟨0, rfl, by omega, Below.refl _ _⟩
  case round =>
    obtain ⟨j, rfl, hj, HB⟩ := hrel
    cases gk with
    | succ g =>
      have h1 : j < fs.length := by omega
      have hji : (j : Int) < (fs.length : Int) := by omega
      obtain ⟨b, o, sv, rfl, hb1, hc1, hv1⟩ := fva_at (HS.out.1.next HB.out) h1
      obtain ⟨b', o', sv', rfl, hb2, hc2, hv2⟩ := fva_at (HS.out.2.next HB.out) h1
      obtain ⟨f, hf⟩ : ∃ f, fs[j] = f := ⟨_, rfl⟩
      rw [hf] at hc1 hv1 hc2 hv2
      have hfl : f.l.length ≤ 1048576 := HL.out f (by rw [← hf]; exact List.getElem_mem _)
      have hq := fun X => neV_run (f.k, f.m, f.s) (f.k, f.m, f.s) X
      rw [decide_eq_true (rfl : (f.k, f.m, f.s) = (f.k, f.m, f.s))] at hq
      obtain ⟨As, cs, rfl, ha1⟩ := id hv1
      obtain ⟨Bs, ds, rfl, ha2⟩ := id hv2
      have HM : Hid (SmSA b (o + j * 6) b' (o' + j * 6) f (.slice As f.l.length cs) (.slice Bs f.l.length ds) wr.drew) := SmSA.next ⟨hc1, hc2, hv1, hv2, hb1, hb2⟩ (Below.refl _ wr).drew
      have HSa : Hid (SlS wr.drew wr.drew.heap.size As f.l) := ha1.1.next (Below.refl _ wr).drew (Nat.le_refl _)
      have HSb : Hid (SlS wr.drew wr.drew.heap.size Bs f.l) := ha2.1.next (Below.refl _ wr).drew (Nat.le_refl _)
      have HBd : Hid (Below w.heap.size w wr.drew) := HB.out.drew
      clear hf hc1 hc2 hv1 hv2 ha1 ha2 hb1 hb2
      go_wp2_with fail
      obtain ⟨wd, hwd⟩ : ∃ wd, wr.drew = wd := ⟨_, rfl⟩
      rw [hwd] at HM HSa HSb HBd
      refine wp_region_held_drew (S := SmSA b (o + j * 6) b' (o' + j * 6) f (.slice As f.l.length cs) (.slice Bs f.l.length ds)) (by kernel_rfl) (by rw [hwd]; exact HM.out) (fun hHeld => ?_)
      rw [hwd] at hHeld ⊢
      refine takeQ 0 17 ((.slice (some ⟨b, o, none⟩) fs.length c)) ?_
      simp only [Act.put, List.setIfInBounds_toArray, List.set_cons_zero, List.set_cons_succ]
      refine takeQ 1 18 ((.int .i64 j)) ?_
      simp only [Act.put, List.setIfInBounds_toArray, List.set_cons_zero, List.set_cons_succ]
      refine takeQ 2 19 ((.pointer (some ⟨b, o + j * 6, none⟩))) ?_
      simp only [Act.put, List.setIfInBounds_toArray, List.set_cons_zero, List.set_cons_succ]
      refine takeQ 3 20 ((.pointer (some ⟨b, o + j * 6, none⟩))) ?_
      simp only [Act.put, List.setIfInBounds_toArray, List.set_cons_zero, List.set_cons_succ]
      refine takeQ 4 21 ((.int .i64 f.e)) ?_ (hy := by (intro _w hSw; have q0 := hSw.1.1; clear hSw; go_simp))
      simp only [Act.put, List.setIfInBounds_toArray, List.set_cons_zero, List.set_cons_succ]
      refine takeQ 5 22 ((.slice (some ⟨b', o', none⟩) fs.length c')) ?_
      simp only [Act.put, List.setIfInBounds_toArray, List.set_cons_zero, List.set_cons_succ]
      refine takeQ 6 23 ((.int .i64 j)) ?_
      simp only [Act.put, List.setIfInBounds_toArray, List.set_cons_zero, List.set_cons_succ]
      refine takeQ 7 24 ((.pointer (some ⟨b', o' + j * 6, none⟩))) ?_
      simp only [Act.put, List.setIfInBounds_toArray, List.set_cons_zero, List.set_cons_succ]
      refine takeQ 8 25 ((.pointer (some ⟨b', o' + j * 6, none⟩))) ?_
      simp only [Act.put, List.setIfInBounds_toArray, List.set_cons_zero, List.set_cons_succ]
      refine takeQ 9 26 ((.int .i64 f.e)) ?_ (hy := by (intro _w hSw; have q0 := hSw.2.1.1; clear hSw; go_simp))
      simp only [Act.put, List.setIfInBounds_toArray, List.set_cons_zero, List.set_cons_succ]
      refine takeQ 10 27 ((.bool false)) ?_
      simp only [Act.put, List.setIfInBounds_toArray, List.set_cons_zero, List.set_cons_succ]
      refine takeQ 11 28 ((.bool false)) ?_
      simp only [Act.put, List.setIfInBounds_toArray, List.set_cons_zero, List.set_cons_succ]
      refine takeQ 12 29 ((.slice (some ⟨b, o, none⟩) fs.length c)) ?_
      simp only [Act.put, List.setIfInBounds_toArray, List.set_cons_zero, List.set_cons_succ]
      refine takeQ 13 30 ((.int .i64 j)) ?_
      simp only [Act.put, List.setIfInBounds_toArray, List.set_cons_zero, List.set_cons_succ]
      refine takeQ 14 31 ((.pointer (some ⟨b, o + j * 6, none⟩))) ?_
      simp only [Act.put, List.setIfInBounds_toArray, List.set_cons_zero, List.set_cons_succ]
      refine takeQ 15 32 ((.pointer (some ⟨b, o + j * 6 + 1, none⟩))) ?_
      simp only [Act.put, List.setIfInBounds_toArray, List.set_cons_zero, List.set_cons_succ]
      refine takeQ 16 33 ((.int .i64 f.a)) ?_ (hy := by (intro _w hSw; have q0 := hSw.1.2.1; clear hSw; go_simp))
      simp only [Act.put, List.setIfInBounds_toArray, List.set_cons_zero, List.set_cons_succ]
      refine takeQ 17 34 ((.slice (some ⟨b', o', none⟩) fs.length c')) ?_
      simp only [Act.put, List.setIfInBounds_toArray, List.set_cons_zero, List.set_cons_succ]
      refine takeQ 18 35 ((.int .i64 j)) ?_
      simp only [Act.put, List.setIfInBounds_toArray, List.set_cons_zero, List.set_cons_succ]
      refine takeQ 19 36 ((.pointer (some ⟨b', o' + j * 6, none⟩))) ?_
      simp only [Act.put, List.setIfInBounds_toArray, List.set_cons_zero, List.set_cons_succ]
      refine takeQ 20 37 ((.pointer (some ⟨b', o' + j * 6 + 1, none⟩))) ?_
      simp only [Act.put, List.setIfInBounds_toArray, List.set_cons_zero, List.set_cons_succ]
      refine takeQ 21 38 ((.int .i64 f.a)) ?_ (hy := by (intro _w hSw; have q0 := hSw.2.1.2.1; clear hSw; go_simp))
      simp only [Act.put, List.setIfInBounds_toArray, List.set_cons_zero, List.set_cons_succ]
      refine takeQ 22 39 ((.bool false)) ?_
      simp only [Act.put, List.setIfInBounds_toArray, List.set_cons_zero, List.set_cons_succ]
      refine takeQ 23 40 ((.bool false)) ?_
      simp only [Act.put, List.setIfInBounds_toArray, List.set_cons_zero, List.set_cons_succ]
      refine takeQ 24 41 ((.bool false)) ?_
      simp only [Act.put, List.setIfInBounds_toArray, List.set_cons_zero, List.set_cons_succ]
      refine takeQ 25 42 ((.slice (some ⟨b, o, none⟩) fs.length c)) ?_
      simp only [Act.put, List.setIfInBounds_toArray, List.set_cons_zero, List.set_cons_succ]
      refine takeQ 26 43 ((.int .i64 j)) ?_
      simp only [Act.put, List.setIfInBounds_toArray, List.set_cons_zero, List.set_cons_succ]
      refine takeQ 27 44 ((.pointer (some ⟨b, o + j * 6, none⟩))) ?_
      simp only [Act.put, List.setIfInBounds_toArray, List.set_cons_zero, List.set_cons_succ]
      refine takeQ 28 45 ((.pointer (some ⟨b, o + j * 6 + 2, none⟩))) ?_
      simp only [Act.put, List.setIfInBounds_toArray, List.set_cons_zero, List.set_cons_succ]
      refine takeQ 29 46 ((.agg #[.int .i64 f.k, .int .i64 f.m, .string f.s])) ?_ (hy := by (intro _w hSw; have q0 := hSw.1.2.2.1; have q1 := hSw.1.2.2.2.1; have q2 := hSw.1.2.2.2.2.1; clear hSw; go_simp))
      simp only [Act.put, List.setIfInBounds_toArray, List.set_cons_zero, List.set_cons_succ]
      refine takeQ 30 47 ((.slice (some ⟨b', o', none⟩) fs.length c')) ?_
      simp only [Act.put, List.setIfInBounds_toArray, List.set_cons_zero, List.set_cons_succ]
      refine takeQ 31 48 ((.int .i64 j)) ?_
      simp only [Act.put, List.setIfInBounds_toArray, List.set_cons_zero, List.set_cons_succ]
      refine takeQ 32 49 ((.pointer (some ⟨b', o' + j * 6, none⟩))) ?_
      simp only [Act.put, List.setIfInBounds_toArray, List.set_cons_zero, List.set_cons_succ]
      refine takeQ 33 50 ((.pointer (some ⟨b', o' + j * 6 + 2, none⟩))) ?_
      simp only [Act.put, List.setIfInBounds_toArray, List.set_cons_zero, List.set_cons_succ]
      refine takeQ 34 51 ((.agg #[.int .i64 f.k, .int .i64 f.m, .string f.s])) ?_ (hy := by (intro _w hSw; have q0 := hSw.2.1.2.2.1; have q1 := hSw.2.1.2.2.2.1; have q2 := hSw.2.1.2.2.2.2.1; clear hSw; go_simp))
      simp only [Act.put, List.setIfInBounds_toArray, List.set_cons_zero, List.set_cons_succ]
      refine takeQ 35 52 ((.bool false)) ?_
      simp only [Act.put, List.setIfInBounds_toArray, List.set_cons_zero, List.set_cons_succ]
      refine takeQ 36 53 ((.bool false)) ?_
      simp only [Act.put, List.setIfInBounds_toArray, List.set_cons_zero, List.set_cons_succ]
      refine takeQ 37 54 ((.bool false)) ?_
      simp only [Act.put, List.setIfInBounds_toArray, List.set_cons_zero, List.set_cons_succ]
      refine takeQ 38 55 ((.slice (some ⟨b, o, none⟩) fs.length c)) ?_
      simp only [Act.put, List.setIfInBounds_toArray, List.set_cons_zero, List.set_cons_succ]
      refine takeQ 39 56 ((.int .i64 j)) ?_
      simp only [Act.put, List.setIfInBounds_toArray, List.set_cons_zero, List.set_cons_succ]
      refine takeQ 40 57 ((.pointer (some ⟨b, o + j * 6, none⟩))) ?_
      simp only [Act.put, List.setIfInBounds_toArray, List.set_cons_zero, List.set_cons_succ]
      refine takeQ 41 58 ((.pointer (some ⟨b, o + j * 6 + 5, none⟩))) ?_
      simp only [Act.put, List.setIfInBounds_toArray, List.set_cons_zero, List.set_cons_succ]
      refine takeQ 42 59 ((.slice As f.l.length cs)) ?_ (hy := by (intro _w hSw; have q0 := hSw.1.2.2.2.2.2; clear hSw; go_simp))
      simp only [Act.put, List.setIfInBounds_toArray, List.set_cons_zero, List.set_cons_succ]
      refine takeQ 43 60 ((.slice (some ⟨b', o', none⟩) fs.length c')) ?_
      simp only [Act.put, List.setIfInBounds_toArray, List.set_cons_zero, List.set_cons_succ]
      refine takeQ 44 61 ((.int .i64 j)) ?_
      simp only [Act.put, List.setIfInBounds_toArray, List.set_cons_zero, List.set_cons_succ]
      refine takeQ 45 62 ((.pointer (some ⟨b', o' + j * 6, none⟩))) ?_
      simp only [Act.put, List.setIfInBounds_toArray, List.set_cons_zero, List.set_cons_succ]
      refine takeQ 46 63 ((.pointer (some ⟨b', o' + j * 6 + 5, none⟩))) ?_
      simp only [Act.put, List.setIfInBounds_toArray, List.set_cons_zero, List.set_cons_succ]
      refine takeQ 47 64 ((.slice Bs f.l.length ds)) ?_ (hy := by (intro _w hSw; have q0 := hSw.2.1.2.2.2.2.2; clear hSw; go_simp))
      simp only [Act.put, List.setIfInBounds_toArray, List.set_cons_zero, List.set_cons_succ]
      refine callV 48 rfl (by kernel_rfl) (by rfl) (fun K hK => ?_)
      go_simp
      refine (sameS_any As Bs cs ds f.l wd wd.heap.size HSa.out HSb.out hfl).mono ?_
      rintro e w8 ⟨rfl, k, rfl⟩
      refine hK.out _ _ (SmSA.next hHeld (below_dn (Below.refl _ wd) k)) (fun hHeld2 => ?_)
      clear hK K hHeld
      try simp only [Act.put, List.setIfInBounds_toArray, List.set_cons_zero, List.set_cons_succ]
      refine takeQ 49 66 ((.bool false)) ?_
      simp only [Act.put, List.setIfInBounds_toArray, List.set_cons_zero, List.set_cons_succ]
      refine takeQ 50 67 ((.bool false)) ?_
      simp only [Act.put, List.setIfInBounds_toArray, List.set_cons_zero, List.set_cons_succ]
      refine wpAnyH_done (by kernel_rfl) ?_ _
      have HBk := Lib.hid (below_dn HBd.out k)
      go_wp2
      go_roundg g
      case measure => omega
      case rel => exact ⟨j + 1, by go_num, by omega, HBk.out⟩
    | zero =>
      have hji : ¬ (j : Int) < (fs.length : Int) := by omega
      go_wp2
      go_ret
      exact ⟨rfl, HB.out⟩
end Go.Proofs.YthdjlaombbeagaaGreat

