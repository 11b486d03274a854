/-
  CONTRACTS: the document's put, made.
-/
import Derived.Test.YtofmfainhflmmaaZClone
import Derived.Test.YtofmfainhflmmaaZRows
import Derived.Test.YtofmfainhflmmaaZSorted
namespace Go.Proofs.Ytofmfainhflmmaa
open Go.RowKit

/-- a slice of rows, as a call answers it -/
def RdR (w : World) (lo : Nat) (v : Value) (R : List Rw) : Prop := ∃ A c, v = .slice A R.length c ∧ SlR w w.heap.size A R ∧ R.length ≤ c ∧ c ≤ maxLen ∧ (A = none → R.length = 0 ∧ c = 0) ∧ (R ≠ [] → ∀ b o, A = some ⟨b, o, none⟩ → lo ≤ b)
theorem RdR.up {W W' : World} {lo : Nat} {v : Value} {R : List Rw} (h : RdR W lo v R) {B' : Nat} (hb : Below B' W W') (hB : W.heap.size ≤ B') : RdR W' lo v R := by
  obtain ⟨A, c, e, hs, h1, h2, h3, h4⟩ := h
  exact ⟨A, c, e, hs.up hb hB, h1, h2, h3, h4⟩
theorem RdR.low {W : World} {lo lo' : Nat} {v : Value} {R : List Rw} (h : RdR W lo v R) (hl : lo' ≤ lo) : RdR W lo' v R := by
  obtain ⟨A, c, e, hs, h1, h2, h3, h4⟩ := h
  exact ⟨A, c, e, hs, h1, h2, h3, fun a b o e => Nat.le_trans hl (h4 a b o e)⟩
/-- rows that lie in no block g, nor does their list -/
theorem RdR.keep {W W' : World} {g lo : Nat} {v : Value} {R : List Rw} (h : RdR W lo v R) (hg : g < lo) (hr : ∀ r ∈ R, RwN W g r) (hk : Kp g W W') : RdR W' lo v R := by
  obtain ⟨A, c, e, hs, h1, h2, h3, h4⟩ := h
  refine ⟨A, c, e, ⟨fun hne => ?_, fun r hr' => ((hr r hr').keep hk).ok⟩, h1, h2, h3, h4⟩
  obtain ⟨b, o, e1, hlt, hc⟩ := hs.s hne
  have := h4 hne b o e1
  exact ⟨b, o, e1, Nat.lt_of_lt_of_le hlt hk.size, fun j x hx => hk.cell (a := ⟨b, o + j, none⟩) (by show b ≠ g; omega) (hc j x hx)⟩
/-- no values lie in a relation's own block -/
theorem rwN_rel {W : World} {g : Nat} {r : Rw} {a0 a1 : Option Addr} {n0 n1 k0 k1 : Nat} {t : TypeId} {fr : Nat × Nat} (h : RwOk W W.heap.size r) (hb : W.heap[g]? = some (.cells #[.slice a0 n0 k0, .slice a1 n1 k1] t fr)) : RwN W g r := by
  refine ⟨h, fun hne b o e e2 => ?_⟩
  subst e2
  obtain ⟨b', o', e', _, hc⟩ := h.s hne
  rw [e] at e'
  injection e' with e'
  injection e' with e1 e2
  subst e1 e2
  have h0 : 0 < r.l.length := List.length_pos_iff.2 hne
  have h1 := (hc 0 _ (List.getElem?_eq_getElem h0)).c0
  unfold World.cell? at h1
  rw [hb] at h1
  simp only [Nat.zero_mul, Nat.add_zero] at h1
  match o, h1 with
  | 0, h1 => simp at h1
  | 1, h1 => simp at h1
  | _ + 2, h1 => simp at h1
theorem txR_at {R : List Rw} {j : Nat} {r : Rw} (h : R[j]? = some r) : (txR R)[j]? = some r.l := by unfold txR; rw [List.getElem?_map, h]; rfl
theorem txR_get {R : List Rw} {j : Nat} {y : List Vl} (h : (txR R)[j]? = some y) : ∃ r, R[j]? = some r ∧ r.l = y := by
  unfold txR at h
  rw [List.getElem?_map] at h
  obtain ⟨r, h1, h2⟩ := Option.map_eq_some_iff.1 h
  exact ⟨r, h1, h2⟩
theorem rdR_of {w : World} {B : Nat} {v : Value} {R : List Rw} (h : Own1 46 cellR w B v R) (hr : ∀ r ∈ R, RwOk w w.heap.size r) : RdR w B v R := by
  obtain ⟨A, c, e, hs, h1, h2, h3, h4⟩ := h.form
  refine ⟨A, c, e, ⟨hs, hr⟩, h1, h2, h3, fun _ b o e => ?_⟩
  obtain ⟨g, e2, h5, _⟩ := h4 _ e
  injection e2 with e3
  omega

set_option maxRecDepth 100000 in
set_option maxHeartbeats 2000000 in
theorem refPut_any (lo : Nat) (A : Option Addr) (c : Nat) (acc : List Rw) (x : Rw) (w : World) (hs : SlR w w.heap.size A acc) (hx : RwOk w w.heap.size x) (hu : Ups ordR (txR acc)) (hlc : acc.length ≤ c) (hcm : c ≤ maxLen) (hn : A = none → acc.length = 0 ∧ c = 0) (hl : acc.length ≤ 1000000000) (hxl : x.l.length ≤ 1000000000) (hlo : lo ≤ w.heap.size) (hfl : acc ≠ [] → ∀ b o, A = some ⟨b, o, none⟩ → lo ≤ b) :
    Calls Try.prog 101 #[.slice A acc.length c, .slice x.A x.l.length x.c] w fun e w' => ∃ v R', e = .returned v ∧ RdR w' lo v R' ∧ txR R' = putG ordR (txR acc) x.l ∧ Below w.heap.size w w' := by
  obtain ⟨i0, hi, hz0, hz1, hz2⟩ := info_parts infoR
  obtain ⟨iv, hiv, hzv0, hzv1, hzv2⟩ := info_parts infoV
  have hmx : 9000000000000 ≤ maxLen := by decide
  have HS := Lib.hid hs
  have HX := Lib.hid hx
  have HU := Lib.hid hu
  have HN := Lib.hid hn
  have HFL := Lib.hid hfl
  clear hs hx hu hn hfl
  go_enter Try.func101, Try.ntmps101
  go_wp2
  go_loopg [5] acc.length (fun g x5 wr => ∃ k : Nat, x5 = .int .i64 k ∧ k = g ∧ k ≤ acc.length ∧ Hid (∀ (i : Nat) (y : List Vl), k ≤ i → (txR acc)[i]? = some y → ordR x.l y < 0) ∧ Hid (Below w.heap.size w wr))
  case atStart => exact ⟨acc.length, rfl, rfl, Nat.le_refl _, fun i y h1 h2 => absurd (List.getElem?_eq_some_iff.1 h2).1 (by rw [txR_len]; omega), Below.refl _ _⟩
  case round =>
    obtain ⟨k, rfl, hkg, hk, HJ, HB⟩ := hrel
    have HKG := Lib.hid hkg
    clear hkg
    by_cases hk0 : 0 < k
    · have hk0i : (0 : Int) < (k : Int) := by omega
      have hw1 : IntKind.i64.wrap ((k : Int) - 1) = ((k - 1 : Nat) : Int) := by
        rw [show ((k - 1 : Nat) : Int) = (k : Int) - 1 from by omega]; exact IntWalk.i64_in _ (by omega)
      have hk1 : k - 1 < acc.length := by omega
      obtain ⟨b, o, r, rfl, hb, hr, hp, hok⟩ := (HS.out.next HB.out (Nat.le_refl _)).at_ hk1
      have HC := Lib.hid (refCmpR_any x r wr (HX.out.up HB.out (Nat.le_refl _)) (hok.more HB.out.size))
      have HR := Lib.hid (txR_at hr)
      unfold cellR at HC
      obtain ⟨q, hq⟩ : ∃ q, ordR x.l r.l = q := ⟨_, rfl⟩
      have HQ := Lib.hid hq
      rw [hq] at HC
      clear hr hok hq
      go_wp2_with fail
      refine HC.out.mono ?_
      rintro e w2 ⟨rfl, hb2⟩
      have HB2 := Lib.hid (HB.out.trans (hb2.mono HB.out.size))
      clear hb2
      by_cases hq0 : q = 0
      · have hq0b : (q == 0) = true := by rw [hq0]; rfl
        have HE : Hid (txR acc = putG ordR (txR acc) x.l) := (put_old ordR_is HU.out (by
          have e : x.l = r.l := (ordR_is.zero _ _).1 (by rw [HQ.out, hq0])
          rw [e]
          exact List.mem_of_getElem? HR.out)).symm
        clear hq0
        go_wp2
        go_ret
        exact ⟨_, acc, rfl, ⟨_, _, rfl, HS.out.up HB2.out (Nat.le_refl _), hlc, hcm, HN.out, HFL.out⟩, HE.out, HB2.out⟩
      · have hq0b : (q == 0) = false := beq_eq_false_iff_ne.2 hq0
        by_cases hq1 : 0 < q
        · have HGT : Hid (∀ y, 0 < k → (txR acc)[k - 1]? = some y → 0 < ordR x.l y) := fun y _ hy => by
            rw [HR.out] at hy
            rw [← Option.some.inj hy, HQ.out]; exact hq1
          have HBT := HB2
          obtain ⟨A0, hA0⟩ : ∃ A0, A0 = some (⟨b, o, none⟩ : Addr) := ⟨_, rfl⟩
          rw [← hA0] at HS HN ⊢
          clear hq0 hp hw1 hA0 hk1 hk0i
          have hBq := HBT.out
          have HXQ := Lib.hid (HX.out.up HBT.out (Nat.le_refl _))
          have HSQ := Lib.hid (HS.out.up HBT.out (Nat.le_refl _))
          have hT := fun w => sliceR_to A0 acc.length c k (by omega) w
          have hF := fun w => sliceR_from A0 acc.length c k hk hlc w
          have HT1 : Hid ((acc.take k).length = k) := List.length_take_of_le hk
          have HT2 : Hid ((acc.drop k).length = acc.length - k) := List.length_drop
          have HN1 : Hid (A0 = none → k = 0 ∧ c = 0) := fun h => by have := HN.out h; omega
          have HN2 : Hid (cut1 A0 c k = none → acc.length - k = 0 ∧ c - k = 0) := fun h => by have := HN.out (cut1_none h); omega
          have HL0 : Hid (OwnV w2 w2.heap.size (.slice none 0 0) []) := World.ownsRow_nil _ _ _ _
          have HNX := Lib.hid HXQ.out.s.news
          have HXN := Lib.hid HX.out.n
          have HFIN : Hid ((txR acc).take k ++ x.l :: (txR acc).drop k = putG ordR (txR acc) x.l) := put_there ordR_is (by rw [txR_len]; exact hk) HU.out HJ.out HGT.out
          have HONE : Hid (∀ (l : List Rw), ∀ u ∈ l.map cellR, u.oneCell' = true) := fun l u hu => by obtain ⟨x, _, rfl⟩ := List.mem_map.1 hu; rfl
          have HXC : Hid (zOk x.l) := HX.out.z
          clear hBq
          have tok1 : True := trivial
          have tok2 : True := trivial
          have tok3 : True := trivial
          have tok4 : True := trivial
          go_wp2_with (first
            | (at_builtin; have _t := tok1; refine wpList_append_any rfl _ _ 46 rfl w2.heap.size 24 iv (.agg #[.int .i64 0, .int .i64 0, .string ⟨#[]⟩]) 3 32 Try.underlying46 hiv hzv0 hzv1 hzv2 rfl (by decide) _ _ _ rfl HL0.out x.A x.l.length x.c (x.l.flatMap cellsV) rfl (flatV_len _) HXN.out HNX.out (cellsV_all _) (by rw [List.length_nil]; omega) (by rw [List.length_nil]; omega) (Nat.le_refl _) ?_; intro v1 w3 hown hgrow; have hv1 : OwnV w3 w2.heap.size v1 x.l := ownV_of (a := []) hown; obtain ⟨A7, c7, rfl, _⟩ := hv1.form; have HV1 := Lib.hid hv1; have HB3 := Lib.hid (below_owns HL0.out hgrow (Nat.le_refl _)); have HS3 := Lib.hid (HSQ.out.up HB3.out (Nat.le_refl _)); have HL2 : Hid (Own1 46 cellR w3 w3.heap.size (.slice none 0 0) []) := own1_nil _ _ _ _; have HN3 := Lib.hid (HS3.out.s.take k).news; clear hown hgrow hv1 tok1)
            | (at_builtin; have _t := tok2; refine wpList_append_any rfl _ _ 32 rfl w3.heap.size 46 i0 (.slice none 0 0) 1 24 Try.underlying32 hi hz0 hz1 hz2 rfl (by decide) _ _ _ rfl HL2.out A0 k c ((acc.take k).map cellR) rfl (by rw [List.length_map, HT1.out, Nat.mul_one]) HN1.out HN3.out (HONE.out _) (by rw [List.length_nil]; omega) (by rw [List.length_nil]; omega) (Nat.le_refl _) ?_; intro v2 w4 hown hgrow; have HV2 : Hid (Own1 46 cellR w4 w3.heap.size v2 (acc.take k)) := own1_of (a := []) hown; have HB4 := Lib.hid (below_owns HL2.out hgrow (Nat.le_refl _)); have HBA := Lib.hid ((Below.refl w4.heap.size w4).alloc (Nat.le_refl _) (.cells #[.slice A7 x.l.length c7] 46)); have HV2a := Lib.hid (HV2.out.next HBA.out); have HLC := Lib.hid (lit1 cellR 46 w4 ⟨A7, c7, x.l⟩); have HZA : Hid (w3.heap.size ≤ (w4.alloc (.cells #[.slice A7 x.l.length c7] 46)).heap.size) := Nat.le_trans HB4.out.size HBA.out.size; clear hown hgrow tok2)
            | (at_builtin; have _t := tok3; refine wpList_append_any rfl _ _ 32 rfl w3.heap.size 46 i0 (.slice none 0 0) 1 24 Try.underlying32 hi hz0 hz1 hz2 rfl (by decide) _ _ _ rfl HV2a.out (some ⟨w4.heap.size, 0, none⟩) 1 1 ([(⟨A7, c7, x.l⟩ : Rw)].map cellR) rfl rfl (fun h => by cases h) HLC.out (HONE.out _) (by rw [HT1.out]; omega) (by rw [HT1.out]; omega) HZA.out ?_; intro v3 w5 hown hgrow; have HV3 : Hid (Own1 46 cellR w5 w3.heap.size v3 (acc.take k ++ [⟨A7, c7, x.l⟩])) := own1_of hown; have HB5 := Lib.hid (((HB4.out).trans (HBA.out.mono HB4.out.size)).trans (below_owns HV2a.out hgrow HZA.out)); have HS5 := Lib.hid (HS3.out.up HB5.out (Nat.le_refl _)); have HN5 := Lib.hid (HS5.out.s.drop (c := c) k hlc).news; clear hown hgrow tok3)
            | (at_builtin; have _t := tok4; refine wpList_append_any rfl _ _ 32 rfl w3.heap.size 46 i0 (.slice none 0 0) 1 24 Try.underlying32 hi hz0 hz1 hz2 rfl (by decide) _ _ _ rfl HV3.out (cut1 A0 c k) (acc.length - k) (c - k) ((acc.drop k).map cellR) rfl (by rw [List.length_map, HT2.out, Nat.mul_one]) HN2.out HN5.out (HONE.out _) (by rw [List.length_append, HT1.out, List.length_cons, List.length_nil]; omega) (by rw [List.length_append, HT1.out, List.length_cons, List.length_nil]; omega) HB5.out.size ?_; intro v4 w6 hown hgrow; have HV4 : Hid (Own1 46 cellR w6 w3.heap.size v4 ((acc.take k ++ [⟨A7, c7, x.l⟩]) ++ acc.drop k)) := own1_of hown; have HB6 := Lib.hid (HB5.out.trans (below_owns HV3.out hgrow HB5.out.size)); clear hown hgrow tok4))
          go_ret
          have HBF := Lib.hid (HB3.out.trans (HB6.out.mono HB3.out.size))
          have HR1 : Hid (RdR w6 lo v4 ((acc.take k ++ [⟨A7, c7, x.l⟩]) ++ acc.drop k)) := (rdR_of HV4.out (fun r hr => by
            rcases List.mem_append.1 hr with e | e
            · rcases List.mem_append.1 e with e | e
              · exact (HS3.out.r r (List.mem_of_mem_take e)).up HB6.out (Nat.le_refl _)
              · rw [List.mem_singleton] at e
                subst e
                exact RwOk.up (OwnV.rwOk (r := ⟨A7, c7, x.l⟩) HV1.out HXC.out) HB6.out (Nat.le_refl _)
            · exact (HS3.out.r r (List.mem_of_mem_drop e)).up HB6.out (Nat.le_refl _))).low (by have := HBT.out.size; have := HB3.out.size; omega)
          have HR2 : Hid (txR ((acc.take k ++ [⟨A7, c7, x.l⟩]) ++ acc.drop k) = putG ordR (txR acc) x.l) := by
            show _ = _
            rw [← HFIN.out]
            unfold txR
            rw [List.map_append, List.map_append, List.map_take, List.map_drop, List.append_assoc]
            rfl
          first | exact ⟨_, _, rfl, HR1.out, HR2.out, HBT.out.trans (HBF.out.mono HBT.out.size)⟩ | exact ⟨_, rfl, _, HR1.out, HR2.out, HBT.out.trans (HBF.out.mono HBT.out.size)⟩
        · cases gk with
          | zero => have := HKG.out; omega
          | succ g =>
            have HE : Hid (∀ (i : Nat) (y : List Vl), k - 1 ≤ i → (txR acc)[i]? = some y → ordR x.l y < 0) := fun i y h1 h2 => by
              by_cases e : i = k - 1
              · subst e
                rw [HR.out] at h2
                rw [← Option.some.inj h2, HQ.out]; omega
              · exact HJ.out i y (by omega) h2
            clear hq0
            go_wp2
            go_roundg g
            case measure => omega
            case rel => exact ⟨k - 1, rfl, by have := HKG.out; omega, by omega, HE.out, HB2.out⟩
    · have hk0i : ¬ (0 : Int) < (k : Int) := by omega
      have HGT : Hid (∀ y, 0 < k → (txR acc)[k - 1]? = some y → 0 < ordR x.l y) := fun y h => absurd h hk0
      have HBT := HB
      obtain ⟨A0, hA0⟩ : ∃ A0, A0 = A := ⟨_, rfl⟩
      rw [← hA0] at HS HN ⊢
      clear hA0
      have hBq := HBT.out
      have HXQ := Lib.hid (HX.out.up HBT.out (Nat.le_refl _))
      have HSQ := Lib.hid (HS.out.up HBT.out (Nat.le_refl _))
      have hT := fun w => sliceR_to A0 acc.length c k (by omega) w
      have hF := fun w => sliceR_from A0 acc.length c k hk hlc w
      have HT1 : Hid ((acc.take k).length = k) := List.length_take_of_le hk
      have HT2 : Hid ((acc.drop k).length = acc.length - k) := List.length_drop
      have HN1 : Hid (A0 = none → k = 0 ∧ c = 0) := fun h => by have := HN.out h; omega
      have HN2 : Hid (cut1 A0 c k = none → acc.length - k = 0 ∧ c - k = 0) := fun h => by have := HN.out (cut1_none h); omega
      have HL0 : Hid (OwnV wr wr.heap.size (.slice none 0 0) []) := World.ownsRow_nil _ _ _ _
      have HNX := Lib.hid HXQ.out.s.news
      have HXN := Lib.hid HX.out.n
      have HFIN : Hid ((txR acc).take k ++ x.l :: (txR acc).drop k = putG ordR (txR acc) x.l) := put_there ordR_is (by rw [txR_len]; exact hk) HU.out HJ.out HGT.out
      have HONE : Hid (∀ (l : List Rw), ∀ u ∈ l.map cellR, u.oneCell' = true) := fun l u hu => by obtain ⟨x, _, rfl⟩ := List.mem_map.1 hu; rfl
      have HXC : Hid (zOk x.l) := HX.out.z
      clear hBq
      have tok1 : True := trivial
      have tok2 : True := trivial
      have tok3 : True := trivial
      have tok4 : True := trivial
      go_wp2_with (first
        | (at_builtin; have _t := tok1; refine wpList_append_any rfl _ _ 46 rfl wr.heap.size 24 iv (.agg #[.int .i64 0, .int .i64 0, .string ⟨#[]⟩]) 3 32 Try.underlying46 hiv hzv0 hzv1 hzv2 rfl (by decide) _ _ _ rfl HL0.out x.A x.l.length x.c (x.l.flatMap cellsV) rfl (flatV_len _) HXN.out HNX.out (cellsV_all _) (by rw [List.length_nil]; omega) (by rw [List.length_nil]; omega) (Nat.le_refl _) ?_; intro v1 w3 hown hgrow; have hv1 : OwnV w3 wr.heap.size v1 x.l := ownV_of (a := []) hown; obtain ⟨A7, c7, rfl, _⟩ := hv1.form; have HV1 := Lib.hid hv1; have HB3 := Lib.hid (below_owns HL0.out hgrow (Nat.le_refl _)); have HS3 := Lib.hid (HSQ.out.up HB3.out (Nat.le_refl _)); have HL2 : Hid (Own1 46 cellR w3 w3.heap.size (.slice none 0 0) []) := own1_nil _ _ _ _; have HN3 := Lib.hid (HS3.out.s.take k).news; clear hown hgrow hv1 tok1)
        | (at_builtin; have _t := tok2; refine wpList_append_any rfl _ _ 32 rfl w3.heap.size 46 i0 (.slice none 0 0) 1 24 Try.underlying32 hi hz0 hz1 hz2 rfl (by decide) _ _ _ rfl HL2.out A0 k c ((acc.take k).map cellR) rfl (by rw [List.length_map, HT1.out, Nat.mul_one]) HN1.out HN3.out (HONE.out _) (by rw [List.length_nil]; omega) (by rw [List.length_nil]; omega) (Nat.le_refl _) ?_; intro v2 w4 hown hgrow; have HV2 : Hid (Own1 46 cellR w4 w3.heap.size v2 (acc.take k)) := own1_of (a := []) hown; have HB4 := Lib.hid (below_owns HL2.out hgrow (Nat.le_refl _)); have HBA := Lib.hid ((Below.refl w4.heap.size w4).alloc (Nat.le_refl _) (.cells #[.slice A7 x.l.length c7] 46)); have HV2a := Lib.hid (HV2.out.next HBA.out); have HLC := Lib.hid (lit1 cellR 46 w4 ⟨A7, c7, x.l⟩); have HZA : Hid (w3.heap.size ≤ (w4.alloc (.cells #[.slice A7 x.l.length c7] 46)).heap.size) := Nat.le_trans HB4.out.size HBA.out.size; clear hown hgrow tok2)
        | (at_builtin; have _t := tok3; refine wpList_append_any rfl _ _ 32 rfl w3.heap.size 46 i0 (.slice none 0 0) 1 24 Try.underlying32 hi hz0 hz1 hz2 rfl (by decide) _ _ _ rfl HV2a.out (some ⟨w4.heap.size, 0, none⟩) 1 1 ([(⟨A7, c7, x.l⟩ : Rw)].map cellR) rfl rfl (fun h => by cases h) HLC.out (HONE.out _) (by rw [HT1.out]; omega) (by rw [HT1.out]; omega) HZA.out ?_; intro v3 w5 hown hgrow; have HV3 : Hid (Own1 46 cellR w5 w3.heap.size v3 (acc.take k ++ [⟨A7, c7, x.l⟩])) := own1_of hown; have HB5 := Lib.hid (((HB4.out).trans (HBA.out.mono HB4.out.size)).trans (below_owns HV2a.out hgrow HZA.out)); have HS5 := Lib.hid (HS3.out.up HB5.out (Nat.le_refl _)); have HN5 := Lib.hid (HS5.out.s.drop (c := c) k hlc).news; clear hown hgrow tok3)
        | (at_builtin; have _t := tok4; refine wpList_append_any rfl _ _ 32 rfl w3.heap.size 46 i0 (.slice none 0 0) 1 24 Try.underlying32 hi hz0 hz1 hz2 rfl (by decide) _ _ _ rfl HV3.out (cut1 A0 c k) (acc.length - k) (c - k) ((acc.drop k).map cellR) rfl (by rw [List.length_map, HT2.out, Nat.mul_one]) HN2.out HN5.out (HONE.out _) (by rw [List.length_append, HT1.out, List.length_cons, List.length_nil]; omega) (by rw [List.length_append, HT1.out, List.length_cons, List.length_nil]; omega) HB5.out.size ?_; intro v4 w6 hown hgrow; have HV4 : Hid (Own1 46 cellR w6 w3.heap.size v4 ((acc.take k ++ [⟨A7, c7, x.l⟩]) ++ acc.drop k)) := own1_of hown; have HB6 := Lib.hid (HB5.out.trans (below_owns HV3.out hgrow HB5.out.size)); clear hown hgrow tok4))
      go_ret
      have HBF := Lib.hid (HB3.out.trans (HB6.out.mono HB3.out.size))
      have HR1 : Hid (RdR w6 lo v4 ((acc.take k ++ [⟨A7, c7, x.l⟩]) ++ acc.drop k)) := (rdR_of HV4.out (fun r hr => by
        rcases List.mem_append.1 hr with e | e
        · rcases List.mem_append.1 e with e | e
          · exact (HS3.out.r r (List.mem_of_mem_take e)).up HB6.out (Nat.le_refl _)
          · rw [List.mem_singleton] at e
            subst e
            exact RwOk.up (OwnV.rwOk (r := ⟨A7, c7, x.l⟩) HV1.out HXC.out) HB6.out (Nat.le_refl _)
        · exact (HS3.out.r r (List.mem_of_mem_drop e)).up HB6.out (Nat.le_refl _))).low (by have := HBT.out.size; have := HB3.out.size; omega)
      have HR2 : Hid (txR ((acc.take k ++ [⟨A7, c7, x.l⟩]) ++ acc.drop k) = putG ordR (txR acc) x.l) := by
        show _ = _
        rw [← HFIN.out]
        unfold txR
        rw [List.map_append, List.map_append, List.map_take, List.map_drop, List.append_assoc]
        rfl
      first | exact ⟨_, _, rfl, HR1.out, HR2.out, HBT.out.trans (HBF.out.mono HBT.out.size)⟩ | exact ⟨_, rfl, _, HR1.out, HR2.out, HBT.out.trans (HBF.out.mono HBT.out.size)⟩
end Go.Proofs.Ytofmfainhflmmaa
