import Derived.Test.YtofmfainhflmmaaJZGath
import Derived.Test.YtofmfainhflmmaaJZClone
import Derived.Deep.LoopGhost
import Derived.Test.YtofmfainhflmmaaJZCmp
import Derived.Test.YtofmfainhflmmaaJZAt
/-
  CONTRACT: rows.sorted.
-/
namespace Go.Proofs.Ytofmfainhflmmaa
open Go.RowKit Go.Shelf

/-- what sorted leaves, of these -/
def SortEnd (R : List Rw) (w : World) (A : Option Addr) (e : Ending) (w' : World) : Prop :=
  ∃ (R' : List Rw) (c : Nat), txR R' = putsG ordR (txR R) ∧ (∀ r ∈ R', r ∈ R) ∧ e = .returned (.slice A R'.length c) ∧ R'.length ≤ c ∧ c ≤ maxLen ∧ Sl1 cellR w' w'.heap.size A R' ∧ (∀ g, A = some ⟨g, 0, none⟩ → RowC w' g R' ∧ Kp g w w') ∧ (A = none → w = w' ∧ R'.length = 0 ∧ c = 0)
theorem txR_len (R : List Rw) : (txR R).length = R.length := List.length_map ..
theorem putG_len {α : Type} {o : α → α → Int} (l : List α) (x : α) : (putG o l x).length ≤ l.length + 1 := by
  unfold putG
  split
  · omega
  · rw [List.length_append, List.length_cons, List.length_take, List.length_drop]; omega
theorem putsF_len {α : Type} {o : α → α → Int} : ∀ (l a : List α), (l.foldl (putG o) a).length ≤ a.length + l.length
  | [], a => by simp
  | x :: l, a => by
    have h1 := putsF_len (o := o) l (putG o a x)
    have h2 := putG_len (o := o) a x
    rw [List.foldl_cons, List.length_cons]; omega
theorem putsG_len {α : Type} {o : α → α → Int} (l : List α) : (putsG o l).length ≤ l.length := by
  have := putsF_len (o := o) l []
  unfold putsG; simpa using this
theorem RowC.sl {W : World} {g : Nat} {R : List Rw} (h : RowC W g R) (hg : g < W.heap.size) : Sl1 cellR W W.heap.size (some ⟨g, 0, none⟩) R := fun _ => ⟨g, 0, rfl, hg, fun j r hr => by rw [Nat.zero_add]; exact (h j r hr).1⟩
theorem putsG_nil {α : Type} {o : α → α → Int} : putsG o ([] : List α) = [] := rfl

set_option maxHeartbeats 400000 in
theorem compR_nil (A : Option Addr) (c : Nat) (w : World) :
    Calls Try.prog 104 #[.slice A 0 c, .func (.func 105) #[] #[]] w fun e w' => e = .returned (.slice A 0 c) ∧ w = w' := by
  go_enter Try.func104, Try.ntmps104
  go_wp2
  go_ret
  exact ⟨rfl, rfl⟩
set_option maxRecDepth 100000 in
set_option maxHeartbeats 1000000 in
theorem sorted_nil (A : Option Addr) (c : Nat) (w : World) :
    Calls Try.prog 64 #[.slice A 0 c] w fun e w' => e = .returned (.slice A 0 c) ∧ w = w' := by
  have hcon := AnyF.slices_SortFunc_none { Try.sortRow with } A c (.func (.func 40) #[] #[]) w
  change Calls Try.prog 90 #[.slice A 0 c, _] _ _ at hcon
  have HCON := Lib.hid hcon
  clear hcon
  go_enter Try.func64, Try.ntmps64
  go_wp2_with fail
  refine HCON.out.mono ?_
  rintro e w2 ⟨rfl, rfl⟩
  go_wp2_with fail
  refine (compR_nil A c _).mono ?_
  rintro e w3 ⟨rfl, rfl⟩
  go_wp2
  go_ret
  exact ⟨rfl, rfl⟩
set_option maxRecDepth 100000 in
set_option maxHeartbeats 1000000 in
theorem sorted_any (B : Nat) (v : Value) (R : List Rw) (w : World) (hr : Own1 46 cellR w B v R) (hok : ∀ (g : Nat), (∃ n c, v = .slice (some ⟨g, 0, none⟩) n c) → ∀ r ∈ R, RwN w g r) (hl : R.length ≤ 1000000000000) :
    Calls Try.prog 64 #[v] w fun e w' => ∃ A n c, v = .slice A n c ∧ (∀ a, A = some a → ∃ g, a = ⟨g, 0, none⟩ ∧ B ≤ g ∧ g < w.heap.size) ∧ SortEnd R w A e w' := by
  obtain ⟨A, c, rfl, hs, hlc, hcm, hn, hg⟩ := hr.form
  by_cases h0 : R.length = 0
  · obtain rfl : R = [] := List.length_eq_zero_iff.1 h0
    refine (sorted_nil A c w).mono ?_
    rintro e w' ⟨rfl, rfl⟩
    refine ⟨A, 0, c, rfl, hg, [], c, rfl, (fun r hr => by cases hr), rfl, Nat.zero_le _, hcm, sl1_nil, fun g _ => ⟨fun j r hr => by simp at hr, Kp.refl _ _⟩, fun e => ⟨rfl, rfl, (hn e).2⟩⟩
  · have hne : R ≠ [] := fun e => h0 (by rw [e]; rfl)
    obtain ⟨g, o, rfl, _⟩ := hs hne
    obtain ⟨g1, e1, hBg, hgw⟩ := hg _ rfl
    obtain ⟨rfl, rfl⟩ : g1 = g ∧ o = 0 := by injection e1 with a b; exact ⟨a.symm, b⟩
    have HR := Lib.hid hr
    have HOK := Lib.hid (hok g1 ⟨_, _, rfl⟩)
    have HG := Lib.hid hg
    have hcap : R.length ≤ c := hlc
    clear hr hok hs hg hn hne
    go_enter Try.func64, Try.ntmps64
    go_wp2_with fail
    refine (sortR_any B g1 c R w HR.out hgw HOK.out (by omega) hl).mono ?_
    rintro e w2 ⟨rfl, ⟨⟨R2, hperm, hsort, hrow⟩, hkp⟩⟩
    have hlen : R2.length = R.length := hperm.length_eq
    have hD : RowD R w2 g1 (txR R2).toArray := fun j hj => by
      have hj2 : j < R2.length := by simpa [txR] using hj
      obtain ⟨h1, h2⟩ := hrow j R2[j] (List.getElem?_eq_getElem hj2)
      refine ⟨⟨R2[j], hperm.mem_iff.1 (List.getElem_mem hj2), h1, ?_⟩, h2⟩
      rw [getElem!_pos _ j hj]
      simp [txR]
    have hsz2 : (txR R2).toArray.size = R.length := by simp [txR, hlen]
    have hcon := compR_any g1 c R (txR R2).toArray w2 (Nat.lt_of_lt_of_le hgw hkp.size) hD (fun r hr => (HOK.out r hr).keep hkp) (by omega) (by omega)
    rw [hsz2] at hcon
    have HCON := Lib.hid hcon
    have HP : Hid (compG ordR (txR R2) = putsG ordR (txR R)) := comp_puts ordR_is (by unfold txR; rw [List.pairwise_map]; exact hsort) fun z => by
      unfold txR
      exact (hperm.map _).mem_iff
    have HKP := Lib.hid hkp
    clear hcon hD hrow hsort hperm hkp hsz2 hlen
    go_wp2_with fail
    refine HCON.out.mono ?_
    rintro e w3 ⟨R3, htx, hin, rfl, hsl, hkp3, hsz⟩
    have HE : Hid (SortEnd R w (some ⟨g1, 0, none⟩) (.returned (.slice (some ⟨g1, 0, none⟩) R3.length c)) w3) := by
      have hll : R3.length ≤ R.length := by
        have := putsG_len (o := ordR) (txR R)
        rw [← HP.out, ← htx, txR_len, txR_len] at this
        exact this
      refine ⟨R3, c, htx.trans HP.out, hin, rfl, by omega, hcm, hsl.sl (by omega), fun g e => ?_, fun e => by cases e⟩
      obtain rfl : g1 = g := by injection e with e; injection e
      exact ⟨hsl, HKP.out.trans hkp3⟩
    clear htx hin hsl hkp3 hsz
    go_wp2
    go_ret
    exact ⟨_, _, _, rfl, HG.out, HE.out⟩
end Go.Proofs.Ytofmfainhflmmaa

/-
  CONTRACTS: the document's put, made.
-/
namespace Go.Proofs.Ytofmfainhflmmaa
open Go.RowKit

/-- a slice of rows, as a call answers it -/
def RdR (w : World) (lo : Nat) (v : Value) (R : List Rw) : Prop := ∃ A c, v = .slice A R.length c ∧ SlR w w.heap.size A R ∧ R.length ≤ c ∧ c ≤ maxLen ∧ (A = none → R.length = 0 ∧ c = 0) ∧ (R ≠ [] → ∀ b o, A = some ⟨b, o, none⟩ → lo ≤ b)
theorem RdR.up {W W' : World} {lo : Nat} {v : Value} {R : List Rw} (h : RdR W lo v R) {B' : Nat} (hb : Below B' W W') (hB : W.heap.size ≤ B') : RdR W' lo v R := by
  obtain ⟨A, c, e, hs, h1, h2, h3, h4⟩ := h
  exact ⟨A, c, e, hs.up hb hB, h1, h2, h3, h4⟩
theorem RdR.low {W : World} {lo lo' : Nat} {v : Value} {R : List Rw} (h : RdR W lo v R) (hl : lo' ≤ lo) : RdR W lo' v R := by
  obtain ⟨A, c, e, hs, h1, h2, h3, h4⟩ := h
  exact ⟨A, c, e, hs, h1, h2, h3, fun a b o e => Nat.le_trans hl (h4 a b o e)⟩
/-- rows that lie in no block g, nor does their list -/
theorem RdR.keep {W W' : World} {g lo : Nat} {v : Value} {R : List Rw} (h : RdR W lo v R) (hg : g < lo) (hr : ∀ r ∈ R, RwN W g r) (hk : Kp g W W') : RdR W' lo v R := by
  obtain ⟨A, c, e, hs, h1, h2, h3, h4⟩ := h
  refine ⟨A, c, e, ⟨fun hne => ?_, fun r hr' => ((hr r hr').keep hk).ok⟩, h1, h2, h3, h4⟩
  obtain ⟨b, o, e1, hlt, hc⟩ := hs.s hne
  have := h4 hne b o e1
  exact ⟨b, o, e1, Nat.lt_of_lt_of_le hlt hk.size, fun j x hx => hk.cell (a := ⟨b, o + j, none⟩) (by show b ≠ g; omega) (hc j x hx)⟩
/-- no values lie in a relation's own block -/
theorem rwN_rel {W : World} {g : Nat} {r : Rw} {a0 a1 : Option Addr} {n0 n1 k0 k1 : Nat} {t : TypeId} {fr : Nat × Nat} (h : RwOk W W.heap.size r) (hb : W.heap[g]? = some (.cells #[.slice a0 n0 k0, .slice a1 n1 k1] t fr)) : RwN W g r := by
  refine ⟨h, fun hne b o e e2 => ?_⟩
  subst e2
  obtain ⟨b', o', e', _, hc⟩ := h.s hne
  rw [e] at e'
  injection e' with e'
  injection e' with e1 e2
  subst e1 e2
  have h0 : 0 < r.l.length := List.length_pos_iff.2 hne
  have h1 := (hc 0 _ (List.getElem?_eq_getElem h0)).c0
  unfold World.cell? at h1
  rw [hb] at h1
  simp only [Nat.zero_mul, Nat.add_zero] at h1
  match o, h1 with
  | 0, h1 => simp at h1
  | 1, h1 => simp at h1
  | _ + 2, h1 => simp at h1
theorem txR_at {R : List Rw} {j : Nat} {r : Rw} (h : R[j]? = some r) : (txR R)[j]? = some r.l := by unfold txR; rw [List.getElem?_map, h]; rfl
theorem txR_get {R : List Rw} {j : Nat} {y : List Vl} (h : (txR R)[j]? = some y) : ∃ r, R[j]? = some r ∧ r.l = y := by
  unfold txR at h
  rw [List.getElem?_map] at h
  obtain ⟨r, h1, h2⟩ := Option.map_eq_some_iff.1 h
  exact ⟨r, h1, h2⟩
theorem rdR_of {w : World} {B : Nat} {v : Value} {R : List Rw} (h : Own1 46 cellR w B v R) (hr : ∀ r ∈ R, RwOk w w.heap.size r) : RdR w B v R := by
  obtain ⟨A, c, e, hs, h1, h2, h3, h4⟩ := h.form
  refine ⟨A, c, e, ⟨hs, hr⟩, h1, h2, h3, fun _ b o e => ?_⟩
  obtain ⟨g, e2, h5, _⟩ := h4 _ e
  injection e2 with e3
  omega

set_option maxRecDepth 100000 in
set_option maxHeartbeats 2000000 in
theorem refPut_any (lo : Nat) (A : Option Addr) (c : Nat) (acc : List Rw) (x : Rw) (w : World) (hs : SlR w w.heap.size A acc) (hx : RwOk w w.heap.size x) (hu : Ups ordR (txR acc)) (hlc : acc.length ≤ c) (hcm : c ≤ maxLen) (hn : A = none → acc.length = 0 ∧ c = 0) (hl : acc.length ≤ 1000000000) (hxl : x.l.length ≤ 1000000000) (hlo : lo ≤ w.heap.size) (hfl : acc ≠ [] → ∀ b o, A = some ⟨b, o, none⟩ → lo ≤ b) :
    Calls Try.prog 101 #[.slice A acc.length c, .slice x.A x.l.length x.c] w fun e w' => ∃ v R', e = .returned v ∧ RdR w' lo v R' ∧ txR R' = putG ordR (txR acc) x.l ∧ Below w.heap.size w w' := by
  obtain ⟨i0, hi, hz0, hz1, hz2⟩ := info_parts infoR
  obtain ⟨iv, hiv, hzv0, hzv1, hzv2⟩ := info_parts infoV
  have hmx : 9000000000000 ≤ maxLen := by decide
  have HS := Lib.hid hs
  have HX := Lib.hid hx
  have HU := Lib.hid hu
  have HN := Lib.hid hn
  have HFL := Lib.hid hfl
  clear hs hx hu hn hfl
  go_enter Try.func101, Try.ntmps101
  go_wp2
  go_loopg [5] acc.length (fun g x5 wr => ∃ k : Nat, x5 = .int .i64 k ∧ k = g ∧ k ≤ acc.length ∧ Hid (∀ (i : Nat) (y : List Vl), k ≤ i → (txR acc)[i]? = some y → ordR x.l y < 0) ∧ Hid (Below w.heap.size w wr))
  case atStart => exact ⟨acc.length, rfl, rfl, Nat.le_refl _, fun i y h1 h2 => absurd (List.getElem?_eq_some_iff.1 h2).1 (by rw [txR_len]; omega), Below.refl _ _⟩
  case round =>
    obtain ⟨k, rfl, hkg, hk, HJ, HB⟩ := hrel
    have HKG := Lib.hid hkg
    clear hkg
    by_cases hk0 : 0 < k
    · have hk0i : (0 : Int) < (k : Int) := by omega
      have hw1 : IntKind.i64.wrap ((k : Int) - 1) = ((k - 1 : Nat) : Int) := by
        rw [show ((k - 1 : Nat) : Int) = (k : Int) - 1 from by omega]; exact IntWalk.i64_in _ (by omega)
      have hk1 : k - 1 < acc.length := by omega
      obtain ⟨b, o, r, rfl, hb, hr, hp, hok⟩ := (HS.out.next HB.out (Nat.le_refl _)).at_ hk1
      have HC := Lib.hid (refCmpR_any x r wr (HX.out.up HB.out (Nat.le_refl _)) (hok.more HB.out.size))
      have HR := Lib.hid (txR_at hr)
      unfold cellR at HC
      obtain ⟨q, hq⟩ : ∃ q, ordR x.l r.l = q := ⟨_, rfl⟩
      have HQ := Lib.hid hq
      rw [hq] at HC
      clear hr hok hq
      go_wp2_with fail
      refine HC.out.mono ?_
      rintro e w2 ⟨rfl, hb2⟩
      have HB2 := Lib.hid (HB.out.trans (hb2.mono HB.out.size))
      clear hb2
      by_cases hq0 : q = 0
      · have hq0b : (q == 0) = true := by rw [hq0]; rfl
        have HE : Hid (txR acc = putG ordR (txR acc) x.l) := (put_old ordR_is HU.out (by
          have e : x.l = r.l := (ordR_is.zero _ _).1 (by rw [HQ.out, hq0])
          rw [e]
          exact List.mem_of_getElem? HR.out)).symm
        clear hq0
        go_wp2
        go_ret
        exact ⟨_, acc, rfl, ⟨_, _, rfl, HS.out.up HB2.out (Nat.le_refl _), hlc, hcm, HN.out, HFL.out⟩, HE.out, HB2.out⟩
      · have hq0b : (q == 0) = false := beq_eq_false_iff_ne.2 hq0
        by_cases hq1 : 0 < q
        · have HGT : Hid (∀ y, 0 < k → (txR acc)[k - 1]? = some y → 0 < ordR x.l y) := fun y _ hy => by
            rw [HR.out] at hy
            rw [← Option.some.inj hy, HQ.out]; exact hq1
          have HBT := HB2
          obtain ⟨A0, hA0⟩ : ∃ A0, A0 = some (⟨b, o, none⟩ : Addr) := ⟨_, rfl⟩
          rw [← hA0] at HS HN ⊢
          clear hq0 hp hw1 hA0 hk1 hk0i
          have hBq := HBT.out
          have HXQ := Lib.hid (HX.out.up HBT.out (Nat.le_refl _))
          have HSQ := Lib.hid (HS.out.up HBT.out (Nat.le_refl _))
          have hT := fun w => sliceR_to A0 acc.length c k (by omega) w
          have hF := fun w => sliceR_from A0 acc.length c k hk hlc w
          have HT1 : Hid ((acc.take k).length = k) := List.length_take_of_le hk
          have HT2 : Hid ((acc.drop k).length = acc.length - k) := List.length_drop
          have HN1 : Hid (A0 = none → k = 0 ∧ c = 0) := fun h => by have := HN.out h; omega
          have HN2 : Hid (cut1 A0 c k = none → acc.length - k = 0 ∧ c - k = 0) := fun h => by have := HN.out (cut1_none h); omega
          have HL0 : Hid (OwnV w2 w2.heap.size (.slice none 0 0) []) := World.ownsRow_nil _ _ _ _
          have HNX := Lib.hid HXQ.out.s.news
          have HXN := Lib.hid HX.out.n
          have HFIN : Hid ((txR acc).take k ++ x.l :: (txR acc).drop k = putG ordR (txR acc) x.l) := put_there ordR_is (by rw [txR_len]; exact hk) HU.out HJ.out HGT.out
          have HONE : Hid (∀ (l : List Rw), ∀ u ∈ l.map cellR, u.oneCell' = true) := fun l u hu => by obtain ⟨x, _, rfl⟩ := List.mem_map.1 hu; rfl
          have HXC : Hid (zOk x.l) := HX.out.z
          clear hBq
          have tok1 : True := trivial
          have tok2 : True := trivial
          have tok3 : True := trivial
          have tok4 : True := trivial
          go_wp2_with (first
            | (at_builtin; have _t := tok1; refine wpList_append_any rfl _ _ 46 rfl w2.heap.size 24 iv (.agg #[.int .i64 0, .int .i64 0, .string ⟨#[]⟩]) 3 32 Try.underlying46 hiv hzv0 hzv1 hzv2 rfl (by decide) _ _ _ rfl HL0.out x.A x.l.length x.c (x.l.flatMap cellsV) rfl (flatV_len _) HXN.out HNX.out (cellsV_all _) (by rw [List.length_nil]; omega) (by rw [List.length_nil]; omega) (Nat.le_refl _) ?_; intro v1 w3 hown hgrow; have hv1 : OwnV w3 w2.heap.size v1 x.l := ownV_of (a := []) hown; obtain ⟨A7, c7, rfl, _⟩ := hv1.form; have HV1 := Lib.hid hv1; have HB3 := Lib.hid (below_owns HL0.out hgrow (Nat.le_refl _)); have HS3 := Lib.hid (HSQ.out.up HB3.out (Nat.le_refl _)); have HL2 : Hid (Own1 46 cellR w3 w3.heap.size (.slice none 0 0) []) := own1_nil _ _ _ _; have HN3 := Lib.hid (HS3.out.s.take k).news; clear hown hgrow hv1 tok1)
            | (at_builtin; have _t := tok2; refine wpList_append_any rfl _ _ 32 rfl w3.heap.size 46 i0 (.slice none 0 0) 1 24 Try.underlying32 hi hz0 hz1 hz2 rfl (by decide) _ _ _ rfl HL2.out A0 k c ((acc.take k).map cellR) rfl (by rw [List.length_map, HT1.out, Nat.mul_one]) HN1.out HN3.out (HONE.out _) (by rw [List.length_nil]; omega) (by rw [List.length_nil]; omega) (Nat.le_refl _) ?_; intro v2 w4 hown hgrow; have HV2 : Hid (Own1 46 cellR w4 w3.heap.size v2 (acc.take k)) := own1_of (a := []) hown; have HB4 := Lib.hid (below_owns HL2.out hgrow (Nat.le_refl _)); have HBA := Lib.hid ((Below.refl w4.heap.size w4).alloc (Nat.le_refl _) (.cells #[.slice A7 x.l.length c7] 46)); have HV2a := Lib.hid (HV2.out.next HBA.out); have HLC := Lib.hid (lit1 cellR 46 w4 ⟨A7, c7, x.l⟩); have HZA : Hid (w3.heap.size ≤ (w4.alloc (.cells #[.slice A7 x.l.length c7] 46)).heap.size) := Nat.le_trans HB4.out.size HBA.out.size; clear hown hgrow tok2)
            | (at_builtin; have _t := tok3; refine wpList_append_any rfl _ _ 32 rfl w3.heap.size 46 i0 (.slice none 0 0) 1 24 Try.underlying32 hi hz0 hz1 hz2 rfl (by decide) _ _ _ rfl HV2a.out (some ⟨w4.heap.size, 0, none⟩) 1 1 ([(⟨A7, c7, x.l⟩ : Rw)].map cellR) rfl rfl (fun h => by cases h) HLC.out (HONE.out _) (by rw [HT1.out]; omega) (by rw [HT1.out]; omega) HZA.out ?_; intro v3 w5 hown hgrow; have HV3 : Hid (Own1 46 cellR w5 w3.heap.size v3 (acc.take k ++ [⟨A7, c7, x.l⟩])) := own1_of hown; have HB5 := Lib.hid (((HB4.out).trans (HBA.out.mono HB4.out.size)).trans (below_owns HV2a.out hgrow HZA.out)); have HS5 := Lib.hid (HS3.out.up HB5.out (Nat.le_refl _)); have HN5 := Lib.hid (HS5.out.s.drop (c := c) k hlc).news; clear hown hgrow tok3)
            | (at_builtin; have _t := tok4; refine wpList_append_any rfl _ _ 32 rfl w3.heap.size 46 i0 (.slice none 0 0) 1 24 Try.underlying32 hi hz0 hz1 hz2 rfl (by decide) _ _ _ rfl HV3.out (cut1 A0 c k) (acc.length - k) (c - k) ((acc.drop k).map cellR) rfl (by rw [List.length_map, HT2.out, Nat.mul_one]) HN2.out HN5.out (HONE.out _) (by rw [List.length_append, HT1.out, List.length_cons, List.length_nil]; omega) (by rw [List.length_append, HT1.out, List.length_cons, List.length_nil]; omega) HB5.out.size ?_; intro v4 w6 hown hgrow; have HV4 : Hid (Own1 46 cellR w6 w3.heap.size v4 ((acc.take k ++ [⟨A7, c7, x.l⟩]) ++ acc.drop k)) := own1_of hown; have HB6 := Lib.hid (HB5.out.trans (below_owns HV3.out hgrow HB5.out.size)); clear hown hgrow tok4))
          go_ret
          have HBF := Lib.hid (HB3.out.trans (HB6.out.mono HB3.out.size))
          have HR1 : Hid (RdR w6 lo v4 ((acc.take k ++ [⟨A7, c7, x.l⟩]) ++ acc.drop k)) := (rdR_of HV4.out (fun r hr => by
            rcases List.mem_append.1 hr with e | e
            · rcases List.mem_append.1 e with e | e
              · exact (HS3.out.r r (List.mem_of_mem_take e)).up HB6.out (Nat.le_refl _)
              · rw [List.mem_singleton] at e
                subst e
                exact RwOk.up (OwnV.rwOk (r := ⟨A7, c7, x.l⟩) HV1.out HXC.out) HB6.out (Nat.le_refl _)
            · exact (HS3.out.r r (List.mem_of_mem_drop e)).up HB6.out (Nat.le_refl _))).low (by have := HBT.out.size; have := HB3.out.size; omega)
          have HR2 : Hid (txR ((acc.take k ++ [⟨A7, c7, x.l⟩]) ++ acc.drop k) = putG ordR (txR acc) x.l) := by
            show _ = _
            rw [← HFIN.out]
            unfold txR
            rw [List.map_append, List.map_append, List.map_take, List.map_drop, List.append_assoc]
            rfl
          first | exact ⟨_, _, rfl, HR1.out, HR2.out, HBT.out.trans (HBF.out.mono HBT.out.size)⟩ | exact ⟨_, rfl, _, HR1.out, HR2.out, HBT.out.trans (HBF.out.mono HBT.out.size)⟩
        · cases gk with
          | zero => have := HKG.out; omega
          | succ g =>
            have HE : Hid (∀ (i : Nat) (y : List Vl), k - 1 ≤ i → (txR acc)[i]? = some y → ordR x.l y < 0) := fun i y h1 h2 => by
              by_cases e : i = k - 1
              · subst e
                rw [HR.out] at h2
                rw [← Option.some.inj h2, HQ.out]; omega
              · exact HJ.out i y (by omega) h2
            clear hq0
            go_wp2
            go_roundg g
            case measure => omega
            case rel => exact ⟨k - 1, rfl, by have := HKG.out; omega, by omega, HE.out, HB2.out⟩
    · have hk0i : ¬ (0 : Int) < (k : Int) := by omega
      have HGT : Hid (∀ y, 0 < k → (txR acc)[k - 1]? = some y → 0 < ordR x.l y) := fun y h => absurd h hk0
      have HBT := HB
      obtain ⟨A0, hA0⟩ : ∃ A0, A0 = A := ⟨_, rfl⟩
      rw [← hA0] at HS HN ⊢
      clear hA0
      have hBq := HBT.out
      have HXQ := Lib.hid (HX.out.up HBT.out (Nat.le_refl _))
      have HSQ := Lib.hid (HS.out.up HBT.out (Nat.le_refl _))
      have hT := fun w => sliceR_to A0 acc.length c k (by omega) w
      have hF := fun w => sliceR_from A0 acc.length c k hk hlc w
      have HT1 : Hid ((acc.take k).length = k) := List.length_take_of_le hk
      have HT2 : Hid ((acc.drop k).length = acc.length - k) := List.length_drop
      have HN1 : Hid (A0 = none → k = 0 ∧ c = 0) := fun h => by have := HN.out h; omega
      have HN2 : Hid (cut1 A0 c k = none → acc.length - k = 0 ∧ c - k = 0) := fun h => by have := HN.out (cut1_none h); omega
      have HL0 : Hid (OwnV wr wr.heap.size (.slice none 0 0) []) := World.ownsRow_nil _ _ _ _
      have HNX := Lib.hid HXQ.out.s.news
      have HXN := Lib.hid HX.out.n
      have HFIN : Hid ((txR acc).take k ++ x.l :: (txR acc).drop k = putG ordR (txR acc) x.l) := put_there ordR_is (by rw [txR_len]; exact hk) HU.out HJ.out HGT.out
      have HONE : Hid (∀ (l : List Rw), ∀ u ∈ l.map cellR, u.oneCell' = true) := fun l u hu => by obtain ⟨x, _, rfl⟩ := List.mem_map.1 hu; rfl
      have HXC : Hid (zOk x.l) := HX.out.z
      clear hBq
      have tok1 : True := trivial
      have tok2 : True := trivial
      have tok3 : True := trivial
      have tok4 : True := trivial
      go_wp2_with (first
        | (at_builtin; have _t := tok1; refine wpList_append_any rfl _ _ 46 rfl wr.heap.size 24 iv (.agg #[.int .i64 0, .int .i64 0, .string ⟨#[]⟩]) 3 32 Try.underlying46 hiv hzv0 hzv1 hzv2 rfl (by decide) _ _ _ rfl HL0.out x.A x.l.length x.c (x.l.flatMap cellsV) rfl (flatV_len _) HXN.out HNX.out (cellsV_all _) (by rw [List.length_nil]; omega) (by rw [List.length_nil]; omega) (Nat.le_refl _) ?_; intro v1 w3 hown hgrow; have hv1 : OwnV w3 wr.heap.size v1 x.l := ownV_of (a := []) hown; obtain ⟨A7, c7, rfl, _⟩ := hv1.form; have HV1 := Lib.hid hv1; have HB3 := Lib.hid (below_owns HL0.out hgrow (Nat.le_refl _)); have HS3 := Lib.hid (HSQ.out.up HB3.out (Nat.le_refl _)); have HL2 : Hid (Own1 46 cellR w3 w3.heap.size (.slice none 0 0) []) := own1_nil _ _ _ _; have HN3 := Lib.hid (HS3.out.s.take k).news; clear hown hgrow hv1 tok1)
        | (at_builtin; have _t := tok2; refine wpList_append_any rfl _ _ 32 rfl w3.heap.size 46 i0 (.slice none 0 0) 1 24 Try.underlying32 hi hz0 hz1 hz2 rfl (by decide) _ _ _ rfl HL2.out A0 k c ((acc.take k).map cellR) rfl (by rw [List.length_map, HT1.out, Nat.mul_one]) HN1.out HN3.out (HONE.out _) (by rw [List.length_nil]; omega) (by rw [List.length_nil]; omega) (Nat.le_refl _) ?_; intro v2 w4 hown hgrow; have HV2 : Hid (Own1 46 cellR w4 w3.heap.size v2 (acc.take k)) := own1_of (a := []) hown; have HB4 := Lib.hid (below_owns HL2.out hgrow (Nat.le_refl _)); have HBA := Lib.hid ((Below.refl w4.heap.size w4).alloc (Nat.le_refl _) (.cells #[.slice A7 x.l.length c7] 46)); have HV2a := Lib.hid (HV2.out.next HBA.out); have HLC := Lib.hid (lit1 cellR 46 w4 ⟨A7, c7, x.l⟩); have HZA : Hid (w3.heap.size ≤ (w4.alloc (.cells #[.slice A7 x.l.length c7] 46)).heap.size) := Nat.le_trans HB4.out.size HBA.out.size; clear hown hgrow tok2)
        | (at_builtin; have _t := tok3; refine wpList_append_any rfl _ _ 32 rfl w3.heap.size 46 i0 (.slice none 0 0) 1 24 Try.underlying32 hi hz0 hz1 hz2 rfl (by decide) _ _ _ rfl HV2a.out (some ⟨w4.heap.size, 0, none⟩) 1 1 ([(⟨A7, c7, x.l⟩ : Rw)].map cellR) rfl rfl (fun h => by cases h) HLC.out (HONE.out _) (by rw [HT1.out]; omega) (by rw [HT1.out]; omega) HZA.out ?_; intro v3 w5 hown hgrow; have HV3 : Hid (Own1 46 cellR w5 w3.heap.size v3 (acc.take k ++ [⟨A7, c7, x.l⟩])) := own1_of hown; have HB5 := Lib.hid (((HB4.out).trans (HBA.out.mono HB4.out.size)).trans (below_owns HV2a.out hgrow HZA.out)); have HS5 := Lib.hid (HS3.out.up HB5.out (Nat.le_refl _)); have HN5 := Lib.hid (HS5.out.s.drop (c := c) k hlc).news; clear hown hgrow tok3)
        | (at_builtin; have _t := tok4; refine wpList_append_any rfl _ _ 32 rfl w3.heap.size 46 i0 (.slice none 0 0) 1 24 Try.underlying32 hi hz0 hz1 hz2 rfl (by decide) _ _ _ rfl HV3.out (cut1 A0 c k) (acc.length - k) (c - k) ((acc.drop k).map cellR) rfl (by rw [List.length_map, HT2.out, Nat.mul_one]) HN2.out HN5.out (HONE.out _) (by rw [List.length_append, HT1.out, List.length_cons, List.length_nil]; omega) (by rw [List.length_append, HT1.out, List.length_cons, List.length_nil]; omega) HB5.out.size ?_; intro v4 w6 hown hgrow; have HV4 : Hid (Own1 46 cellR w6 w3.heap.size v4 ((acc.take k ++ [⟨A7, c7, x.l⟩]) ++ acc.drop k)) := own1_of hown; have HB6 := Lib.hid (HB5.out.trans (below_owns HV3.out hgrow HB5.out.size)); clear hown hgrow tok4))
      go_ret
      have HBF := Lib.hid (HB3.out.trans (HB6.out.mono HB3.out.size))
      have HR1 : Hid (RdR w6 lo v4 ((acc.take k ++ [⟨A7, c7, x.l⟩]) ++ acc.drop k)) := (rdR_of HV4.out (fun r hr => by
        rcases List.mem_append.1 hr with e | e
        · rcases List.mem_append.1 e with e | e
          · exact (HS3.out.r r (List.mem_of_mem_take e)).up HB6.out (Nat.le_refl _)
          · rw [List.mem_singleton] at e
            subst e
            exact RwOk.up (OwnV.rwOk (r := ⟨A7, c7, x.l⟩) HV1.out HXC.out) HB6.out (Nat.le_refl _)
        · exact (HS3.out.r r (List.mem_of_mem_drop e)).up HB6.out (Nat.le_refl _))).low (by have := HBT.out.size; have := HB3.out.size; omega)
      have HR2 : Hid (txR ((acc.take k ++ [⟨A7, c7, x.l⟩]) ++ acc.drop k) = putG ordR (txR acc) x.l) := by
        show _ = _
        rw [← HFIN.out]
        unfold txR
        rw [List.map_append, List.map_append, List.map_take, List.map_drop, List.append_assoc]
        rfl
      first | exact ⟨_, _, rfl, HR1.out, HR2.out, HBT.out.trans (HBF.out.mono HBT.out.size)⟩ | exact ⟨_, rfl, _, HR1.out, HR2.out, HBT.out.trans (HBF.out.mono HBT.out.size)⟩
end Go.Proofs.Ytofmfainhflmmaa

/-
  CONTRACTS: the document's Same; the law's ref, same, great.
-/
namespace Go.Proofs.Ytofmfainhflmmaa
open Go.RowKit

open Classical in
/-- are two relations the same? -/
noncomputable def sameB (c1 c2 : List ByteArray) (t1 t2 : List (List Vl)) : Bool := decide (c1 = c2 ∧ t1 = t2)
theorem sameB_yes {c : List ByteArray} {t : List (List Vl)} : sameB c c t t = true := by unfold sameB; simp
theorem sameB_no {c1 c2 : List ByteArray} {t1 t2 : List (List Vl)} (h : c1 ≠ c2 ∨ t1 ≠ t2) : sameB c1 c2 t1 t2 = false := by
  unfold sameB
  rw [decide_eq_false_iff_not]
  rintro ⟨h1, h2⟩
  rcases h with h | h
  · exact h h1
  · exact h h2
theorem list_eq_of {α : Type} {a b : List α} (hl : a.length = b.length) (h : ∀ i (h1 : i < a.length) (h2 : i < b.length), a[i] = b[i]) : a = b := List.ext_getElem hl fun i h1 h2 => h i h1 h2

theorem results_c1 {fn : Func} {p : Tmp} {ty : TypeId} (h : fn.results = #[.cell p ty]) (tmps : Array Value) (P : Program) (w : World) :
    (results fn tmps).run P w = ((asAddr (tmps.getD p undef)).run P w).andThen fun a w₁ => (loadVar ty a).run P w₁ := by
  simp only [results, h]
  simp [Sem.run_bind]
set_option maxHeartbeats 1000000 in
theorem ref_any (v0 v1 : Value) (a0 a1 : Option Addr) (n0 n1 k0 k1 : Nat) (h0 : v0 = .slice a0 n0 k0) (h1 : v1 = .slice a1 n1 k1) (w : World) :
    Calls Try.prog 23 #[.agg #[v0, v1]] w fun e w' => e = .returned (.agg #[v0, v1]) ∧ Below w.heap.size w w' := by
  subst h0 h1
  have HB := Lib.hid (((Below.refl w.heap.size w).alloc (Nat.le_refl _) (.cells #[.slice a0 n0 k0, .slice a1 n1 k1] 34)).alloc (by simp) (.cells #[.slice a0 n0 k0, .slice a1 n1 k1] 43))
  go_enter Try.func23, Try.ntmps23
  go_wp2
  refine bodyPost_ret (v := .agg #[.slice a0 n0 k0, .slice a1 n1 k1]) ?_ rfl ⟨rfl, HB.out⟩
  rw [results_c1 rfl]
  go_simp

set_option maxRecDepth 100000 in
set_option maxHeartbeats 4000000 in
theorem sameRel_any (A1 A2 A3 A4 : Option Addr) (c1 c2 c3 c4 : Nat) (l1 l2 : List ByteArray) (R1 R2 : List Rw) (w : World) (hs1 : SlC w w.heap.size A1 l1) (hs2 : SlC w w.heap.size A3 l2) (hr1 : SlR w w.heap.size A2 R1) (hr2 : SlR w w.heap.size A4 R2)
    (_hl1 : l1.length ≤ 1000000000) (hl2 : l2.length ≤ 1000000000) (_hl3 : R1.length ≤ 1000000000) (hl4 : R2.length ≤ 1000000000) :
    Calls Try.prog 17 #[.agg #[.slice A1 l1.length c1, .slice A2 R1.length c2], .agg #[.slice A3 l2.length c3, .slice A4 R2.length c4]] w fun e w' => e = .returned (.bool (sameB l1 l2 (txR R1) (txR R2))) ∧ Below w.heap.size w w' := by
  have HS1 := Lib.hid hs1
  have HS2 := Lib.hid hs2
  have HR1 := Lib.hid hr1
  have HR2 := Lib.hid hr2
  clear hs1 hs2 hr1 hr2
  obtain ⟨wa, hwa⟩ : ∃ wa, w.alloc (.cells #[.slice A1 l1.length c1, .slice A2 R1.length c2] 43) = wa := ⟨_, rfl⟩
  have hza : wa.heap.size = w.heap.size + 1 := by rw [← hwa]; simp
  have hba : Below w.heap.size w wa := by rw [← hwa]; exact (Below.refl _ _).alloc (Nat.le_refl _) _
  have a0 : wa.cell? ⟨w.heap.size, 0, none⟩ = some (.slice A1 l1.length c1) := by rw [← hwa, World.cell?_alloc_new]; rfl
  have a1 : wa.cell? ⟨w.heap.size, 1, none⟩ = some (.slice A2 R1.length c2) := by rw [← hwa, World.cell?_alloc_new]; rfl
  obtain ⟨wb, hwb⟩ : ∃ wb, wa.alloc (.cells #[.slice A3 l2.length c3, .slice A4 R2.length c4] 43) = wb := ⟨_, rfl⟩
  have hzb : wb.heap.size = wa.heap.size + 1 := by rw [← hwb]; simp
  have hbb : Below wa.heap.size wa wb := by rw [← hwb]; exact (Below.refl _ _).alloc (Nat.le_refl _) _
  have b0 : wb.cell? ⟨wa.heap.size, 0, none⟩ = some (.slice A3 l2.length c3) := by rw [← hwb, World.cell?_alloc_new]; rfl
  have b1 : wb.cell? ⟨wa.heap.size, 1, none⟩ = some (.slice A4 R2.length c4) := by rw [← hwb, World.cell?_alloc_new]; rfl
  have hla : w.heap.size < wa.heap.size := by omega
  have hlb : wa.heap.size < wb.heap.size := by omega
  have a0 := (hbb.cell (p := ⟨w.heap.size, 0, none⟩) hla).trans a0
  have a1 := (hbb.cell (p := ⟨w.heap.size, 1, none⟩) hla).trans a1
  have HBB : Hid (Below w.heap.size w wb) := hba.trans (hbb.mono hba.size)
  have HCELL := Lib.hid (show wb.cell? ⟨w.heap.size, 0, none⟩ = some (.slice A1 l1.length c1) ∧ wb.cell? ⟨w.heap.size, 1, none⟩ = some (.slice A2 R1.length c2) ∧ wb.cell? ⟨wa.heap.size, 0, none⟩ = some (.slice A3 l2.length c3) ∧ wb.cell? ⟨wa.heap.size, 1, none⟩ = some (.slice A4 R2.length c4) ∧ w.heap.size < wb.heap.size ∧ wa.heap.size < wb.heap.size from ⟨a0, a1, b0, b1, by omega, by omega⟩)
  clear hza hba hzb hbb hla hlb
  by_cases hlen : l1.length = l2.length ∧ R1.length = R2.length
  · obtain ⟨hle1, hle2⟩ := hlen
    have q1 : ((l1.length : Int) != (l2.length : Int)) = false := by rw [hle1]; simp
    have q2 : ((R1.length : Int) != (R2.length : Int)) = false := by rw [hle2]; simp
    have HLE := Lib.hid (show l1.length = l2.length ∧ R1.length = R2.length from ⟨hle1, hle2⟩)
    clear hle1 hle2
    go_enter Try.func17, Try.ntmps17
    go_wp2
    go_loopg [5] l1.length (fun g x5 wr => ∃ j : Nat, x5 = .int .i64 j ∧ j + g = l1.length ∧ Hid (∀ i (h1 : i < j) (h2 : i < l1.length) (h3 : i < l2.length), l1[i] = l2[i]) ∧ Hid (Below wb.heap.size wb wr))
    case atStart => exact ⟨0, rfl, by omega, fun i h => absurd h (Nat.not_lt_zero _), Below.refl _ _⟩
    case round =>
      obtain ⟨j, rfl, hj, HJ, HB⟩ := hrel
      have a0 := (HB.out.cell (p := ⟨w.heap.size, 0, none⟩) HCELL.out.2.2.2.2.1).trans HCELL.out.1
      have a1 := (HB.out.cell (p := ⟨w.heap.size, 1, none⟩) HCELL.out.2.2.2.2.1).trans HCELL.out.2.1
      have b0 := (HB.out.cell (p := ⟨wa.heap.size, 0, none⟩) HCELL.out.2.2.2.2.2).trans HCELL.out.2.2.1
      have b1 := (HB.out.cell (p := ⟨wa.heap.size, 1, none⟩) HCELL.out.2.2.2.2.2).trans HCELL.out.2.2.2.1
      have HBW : Hid (Below w.heap.size w wr) := HBB.out.trans (HB.out.mono HBB.out.size)
      clear hwa hwb
      cases gk with
      | succ g =>
        have hji : (j : Int) < (l1.length : Int) := by omega
        have hjn : j < l1.length := by omega
        have hjn2 : j < l2.length := by have := HLE.out.1; omega
        obtain ⟨e1, o1, rfl, _, p1⟩ := (HS1.out.next HBW.out (Nat.le_refl _)).at_ hjn
        obtain ⟨e2, o2, rfl, _, p2⟩ := (HS2.out.next HBW.out (Nat.le_refl _)).at_ hjn2
        unfold strV at p1 p2
        by_cases hq : eqS l1[j] l2[j] = true
        · have HE : Hid (∀ i (h1 : i < j + 1) (h2 : i < l1.length) (h3 : i < l2.length), l1[i] = l2[i]) := fun i h1 h2 h3 => by
            by_cases e : i = j
            · subst e; exact eqS_iff.1 hq
            · exact HJ.out i (by omega) h2 h3
          have hq2 : (l1[j].toList == l2[j].toList) = true := hq
          have hq3 : (!(l1[j].toList == l2[j].toList)) = false := by rw [hq2]; rfl
          clear hq
          go_wp2
          go_quiet (fail)
          have HB2 : Hid (Below wb.heap.size wb (wr.drewN nq)) := HB.out.trans (below_drewN _ _)
          go_wp2
          go_roundg g
          case measure => omega
          case rel => exact ⟨j + 1, by go_num, by omega, HE.out, HB2.out⟩
        · rw [Bool.not_eq_true] at hq
          have HE : Hid (sameB l1 l2 (txR R1) (txR R2) = false) := sameB_no (.inl fun e => by
            have := eqS_no.1 hq
            subst e
            exact this rfl)
          have hq2 : (l1[j].toList == l2[j].toList) = false := hq
          have hq3 : (!(l1[j].toList == l2[j].toList)) = true := by rw [hq2]; rfl
          clear hq
          go_wp2
          go_quiet (fail)
          go_wp2
          go_ret
          exact ⟨ret_bool (by rw [HE.out]), HBW.out.trans (below_drewN _ _)⟩
      | zero =>
        have hji : ¬ (j : Int) < (l1.length : Int) := by omega
        have HEC : Hid (l1 = l2) := list_eq_of HLE.out.1 fun i h1 h2 => HJ.out i (by omega) h1 h2
        have HBX := HBW
        obtain ⟨wx, hwx⟩ : ∃ wx, wx = wr := ⟨_, rfl⟩
        subst hwx
        go_wp2
        go_loopg [6] R1.length (fun g x6 wr => ∃ j : Nat, x6 = .int .i64 j ∧ j + g = R1.length ∧ Hid (∀ i (x y : Rw), i < j → R1[i]? = some x → R2[i]? = some y → x.l = y.l) ∧ Hid (Below wb.heap.size wb wr))
        case atStart => exact ⟨0, rfl, by omega, fun i x y h => absurd h (Nat.not_lt_zero _), HB.out⟩
        case round =>
          obtain ⟨k, rfl, hk, HK, HB⟩ := hrel
          have HBZ : Hid (Below w.heap.size w wr) := HBB.out.trans (HB.out.mono HBB.out.size)
          have a0 := (HB.out.cell (p := ⟨w.heap.size, 0, none⟩) HCELL.out.2.2.2.2.1).trans HCELL.out.1
          have a1 := (HB.out.cell (p := ⟨w.heap.size, 1, none⟩) HCELL.out.2.2.2.2.1).trans HCELL.out.2.1
          have b0 := (HB.out.cell (p := ⟨wa.heap.size, 0, none⟩) HCELL.out.2.2.2.2.2).trans HCELL.out.2.2.1
          have b1 := (HB.out.cell (p := ⟨wa.heap.size, 1, none⟩) HCELL.out.2.2.2.2.2).trans HCELL.out.2.2.2.1
          cases gk with
          | succ g =>
            have hki : (k : Int) < (R1.length : Int) := by omega
            have hkn : k < R1.length := by omega
            have hkn2 : k < R2.length := by have := HLE.out.2; omega
            obtain ⟨e1, o1, x, rfl, hlt1, hx, p1, hok1⟩ := (HR1.out.next HBZ.out (Nat.le_refl _)).at_ hkn
            obtain ⟨e2, o2, y, rfl, hlt2, hy, p2, hok2⟩ := (HR2.out.next HBZ.out (Nat.le_refl _)).at_ hkn2
            have HX := Lib.hid hx
            have HY := Lib.hid hy
            have HCC := Lib.hid (fun W (hb : Below wr.heap.size wr W) => refCmpR_any x y W ((hok1.more HBZ.out.size).up hb (Nat.le_refl _)) ((hok2.more HBZ.out.size).up hb (Nat.le_refl _)))
            obtain ⟨A5, c5, l5⟩ := x
            obtain ⟨A6, c6, l6⟩ := y
            unfold cellR at HCC
            obtain ⟨q, hq⟩ : ∃ q, ordR l5 l6 = q := ⟨_, rfl⟩
            have HQ := Lib.hid hq
            rw [hq] at HCC
            have hz1 : w.heap.size < wr.heap.size := Nat.lt_of_lt_of_le HCELL.out.2.2.2.2.1 HB.out.size
            have hz2 : wa.heap.size < wr.heap.size := Nat.lt_of_lt_of_le HCELL.out.2.2.2.2.2 HB.out.size
            have HBX1 := Lib.hid (show wr.cell? ⟨w.heap.size, 1, none⟩ = _ ∧ wr.cell? ⟨wa.heap.size, 1, none⟩ = _ ∧ w.heap.size < wr.heap.size ∧ wa.heap.size < wr.heap.size from ⟨a1, b1, hz1, hz2⟩)
            have HSD1 := Lib.hid (CsA.start p1 p2 (Nat.lt_of_lt_of_le hlt1 HBZ.out.size) (Nat.lt_of_lt_of_le hlt2 HBZ.out.size))
            obtain ⟨wd1, hwd1⟩ : ∃ wd, wr.drew = wd := ⟨_, rfl⟩
            rw [hwd1] at HSD1
            clear hx hy hok1 hok2 hq p1 p2 hz1 hz2 b0 b1 a0
            go_wp2_with fail
            refine wp_region_held_drew (S := CsA wr ⟨e1, o1 + k, none⟩ ⟨e2, o2 + k, none⟩ (.slice A5 l5.length c5) (.slice A6 l6.length c6)) (by kernel_rfl) (by rw [hwd1]; exact HSD1.out) (fun hHeld => ?_)
            rw [hwd1] at hHeld ⊢
            clear hwd1 a1
            refine takeV 0 (some 49) ((.pointer (some ⟨w.heap.size, 1, none⟩))) rfl rfl (by kernel_rfl) (by kernel_rfl) (by kernel_rfl) (fun _ _ _ h => h) (by rfl) (by (intro _w _hSw; (try dsimp only at _hSw); go_simp)) (by assumption) ?_
            simp only [Act.put, List.setIfInBounds_toArray, List.set_cons_zero, List.set_cons_succ]
            refine takeV 1 (some 50) ((.slice (some ⟨e1, o1, none⟩) R1.length c2)) rfl rfl (by kernel_rfl) (by kernel_rfl) (by kernel_rfl) (fun _ _ _ h => h) (by rfl) (by (intro _w hSw; have k0 := (hSw.2.2.2.cell (p := ⟨w.heap.size, 1, none⟩) HBX1.out.2.2.1).trans HBX1.out.1; clear hSw; go_simp)) (by assumption) ?_
            simp only [Act.put, List.setIfInBounds_toArray, List.set_cons_zero, List.set_cons_succ]
            refine takeV 2 (some 51) ((.int .i64 k)) rfl rfl (by kernel_rfl) (by kernel_rfl) (by kernel_rfl) (fun _ _ _ h => h) (by rfl) (by (intro _w _hSw; (try dsimp only at _hSw); go_simp)) (by assumption) ?_
            simp only [Act.put, List.setIfInBounds_toArray, List.set_cons_zero, List.set_cons_succ]
            refine takeV 3 (some 52) ((.pointer (some ⟨e1, o1 + k, none⟩))) rfl rfl (by kernel_rfl) (by kernel_rfl) (by kernel_rfl) (fun _ _ _ h => h) (by rfl) (by (intro _w _hSw; (try dsimp only at _hSw); go_simp)) (by assumption) ?_
            simp only [Act.put, List.setIfInBounds_toArray, List.set_cons_zero, List.set_cons_succ]
            refine takeV 4 (some 53) ((.slice A5 l5.length c5)) rfl rfl (by kernel_rfl) (by kernel_rfl) (by kernel_rfl) (fun _ _ _ h => h) (by rfl) (by (intro _w hSw; have k0 := hSw.1; clear hSw; go_simp)) (by assumption) ?_
            simp only [Act.put, List.setIfInBounds_toArray, List.set_cons_zero, List.set_cons_succ]
            refine takeV 5 (some 54) ((.pointer (some ⟨wa.heap.size, 1, none⟩))) rfl rfl (by kernel_rfl) (by kernel_rfl) (by kernel_rfl) (fun _ _ _ h => h) (by rfl) (by (intro _w _hSw; (try dsimp only at _hSw); go_simp)) (by assumption) ?_
            simp only [Act.put, List.setIfInBounds_toArray, List.set_cons_zero, List.set_cons_succ]
            refine takeV 6 (some 55) ((.slice (some ⟨e2, o2, none⟩) R2.length c4)) rfl rfl (by kernel_rfl) (by kernel_rfl) (by kernel_rfl) (fun _ _ _ h => h) (by rfl) (by (intro _w hSw; have k0 := (hSw.2.2.2.cell (p := ⟨wa.heap.size, 1, none⟩) HBX1.out.2.2.2).trans HBX1.out.2.1; clear hSw; go_simp)) (by assumption) ?_
            simp only [Act.put, List.setIfInBounds_toArray, List.set_cons_zero, List.set_cons_succ]
            refine takeV 7 (some 56) ((.int .i64 k)) rfl rfl (by kernel_rfl) (by kernel_rfl) (by kernel_rfl) (fun _ _ _ h => h) (by rfl) (by (intro _w _hSw; (try dsimp only at _hSw); go_simp)) (by assumption) ?_
            simp only [Act.put, List.setIfInBounds_toArray, List.set_cons_zero, List.set_cons_succ]
            refine takeV 8 (some 57) ((.pointer (some ⟨e2, o2 + k, none⟩))) rfl rfl (by kernel_rfl) (by kernel_rfl) (by kernel_rfl) (fun _ _ _ h => h) (by rfl) (by (intro _w _hSw; (try dsimp only at _hSw); go_simp)) (by assumption) ?_
            simp only [Act.put, List.setIfInBounds_toArray, List.set_cons_zero, List.set_cons_succ]
            refine takeV 9 (some 58) ((.slice A6 l6.length c6)) rfl rfl (by kernel_rfl) (by kernel_rfl) (by kernel_rfl) (fun _ _ _ h => h) (by rfl) (by (intro _w hSw; have k0 := hSw.2.1; clear hSw; go_simp)) (by assumption) ?_
            simp only [Act.put, List.setIfInBounds_toArray, List.set_cons_zero, List.set_cons_succ]
            refine callV 10 rfl (by kernel_rfl) (by rfl) (fun K hK => ?_)
            go_simp
            refine (HCC.out _ hHeld.2.2.2).mono ?_
            rintro e w3 ⟨rfl, hb3⟩
            have HB3 := Lib.hid ((hHeld.next hb3).2.2.2)
            refine hK.out _ _ (hHeld.next hb3) (fun _ => ?_)
            clear hK K hHeld hb3
            try simp only [Act.put, List.setIfInBounds_toArray, List.set_cons_zero, List.set_cons_succ]
            refine takeV 11 (some 7) ((.int .i64 q)) rfl rfl (by kernel_rfl) (by kernel_rfl) (by kernel_rfl) (fun _ _ _ h => h) (by rfl) (by (intro _w _hSw; (try dsimp only at _hSw); go_simp)) (by assumption) ?_
            simp only [Act.put, List.setIfInBounds_toArray, List.set_cons_zero, List.set_cons_succ]
            refine wpAnyH_done (by kernel_rfl) ?_ _
            clear HSD1
            by_cases hq0 : q = 0
            · have hq1 : (q != 0) = false := by rw [hq0]; rfl
              have HE : Hid (∀ i (x y : Rw), i < k + 1 → R1[i]? = some x → R2[i]? = some y → x.l = y.l) := fun i x y h1 h2 h3 => by
                by_cases e : i = k
                · subst e
                  rw [HX.out] at h2
                  rw [HY.out] at h3
                  rw [← Option.some.inj h2, ← Option.some.inj h3]
                  exact (ordR_is.zero _ _).1 (by rw [← hq0]; exact HQ.out)
                · exact HK.out i x y (by omega) h2 h3
              clear hq0
              go_wp2
              go_roundg g
              case measure => omega
              case rel => exact ⟨k + 1, by go_num, by omega, HE.out, HB.out.trans (HB3.out.mono HB.out.size)⟩
            · have hq1 : (q != 0) = true := by simpa using hq0
              have HE : Hid (sameB l1 l2 (txR R1) (txR R2) = false) := sameB_no (.inr fun e => hq0 (by
                have h1 := txR_at HX.out
                have h2 := txR_at HY.out
                rw [e, h2] at h1
                have h3 : l6 = l5 := Option.some.inj h1
                rw [← HQ.out]
                exact (ordR_is.zero _ _).2 h3.symm))
              clear hq0
              go_wp2
              go_ret
              exact ⟨ret_bool (by rw [HE.out]), HBZ.out.trans (HB3.out.mono HBZ.out.size)⟩
          | zero =>
            have hki : ¬ (k : Int) < (R1.length : Int) := by omega
            have HET : Hid (txR R1 = txR R2) := by
              show _ = _
              refine list_eq_of (by rw [txR_len, txR_len]; exact HLE.out.2) fun i h1 h2 => ?_
              rw [txR_len] at h1 h2
              have hh := HK.out i R1[i] R2[i] (by omega) (List.getElem?_eq_getElem h1) (List.getElem?_eq_getElem h2)
              simpa [txR] using hh
            have HE : Hid (sameB l1 l2 (txR R1) (txR R2) = true) := by
              show _ = _
              rw [HEC.out, HET.out]; exact sameB_yes
            go_wp2
            go_ret
            exact ⟨ret_bool (by rw [HE.out]), HBZ.out⟩
  · have hq12 : ((l1.length : Int) != (l2.length : Int)) = true ∨ (((l1.length : Int) != (l2.length : Int)) = false ∧ ((R1.length : Int) != (R2.length : Int)) = true) := by
      by_cases h : l1.length = l2.length
      · refine .inr ⟨by rw [h]; simp, ?_⟩
        rw [bne_iff_ne]
        intro e
        exact hlen ⟨h, by omega⟩
      · refine .inl ?_
        rw [bne_iff_ne]; omega
    have HE : Hid (sameB l1 l2 (txR R1) (txR R2) = false) := by
      refine sameB_no ?_
      by_cases h : l1 = l2
      · refine .inr fun e => hlen ⟨by rw [h], ?_⟩
        have := congrArg List.length e
        rwa [txR_len, txR_len] at this
      · exact .inl h
    clear hlen
    rcases hq12 with q1 | ⟨q1, q2⟩
    · go_enter Try.func17, Try.ntmps17
      go_wp2
      go_ret
      exact ⟨ret_bool (by rw [HE.out]), HBB.out⟩
    · go_enter Try.func17, Try.ntmps17
      go_wp2
      go_ret
      exact ⟨ret_bool (by rw [HE.out]), HBB.out⟩
end Go.Proofs.Ytofmfainhflmmaa

/-
  CONTRACT: rows.Of.
-/
namespace Go.Proofs.Ytofmfainhflmmaa
open Go.RowKit

theorem results_ct {fn : Func} {p u : Tmp} {ty : TypeId} (h : fn.results = #[.cell p ty, .tmp u]) (tmps : Array Value) (P : Program) (w : World) :
    (results fn tmps).run P w = ((asAddr (tmps.getD p undef)).run P w).andThen fun a w₁ => ((loadVar ty a).run P w₁).andThen fun v w₂ => .ok (.tuple #[v, tmps.getD u undef]) w₂ := by
  simp only [results, h]
  simp [Sem.run_bind]
/-- a relation's two cells, stored -/
theorem cells_two {W : World} {b : Nat} {u0 u1 v0 v1 : Value} (c0 : W.cell? ⟨b, 0, none⟩ = some u0) (c1 : W.cell? ⟨b, 1, none⟩ = some u1) :
    ((W.setCell ⟨b, 0, none⟩ v0).setCell ⟨b, 1, none⟩ v1).cell? ⟨b, 0, none⟩ = some v0 ∧ ((W.setCell ⟨b, 0, none⟩ v0).setCell ⟨b, 1, none⟩ v1).cell? ⟨b, 1, none⟩ = some v1 := by
  constructor
  · rw [World.cell?_setCell_other _ _ _ _ (by intro h; injection h with _ h; omega), World.cell?_setCell_same _ _ _ c0]
  · rw [World.cell?_setCell_same _ _ _ (by rw [World.cell?_setCell_other _ _ _ _ (by intro h; injection h with _ h; omega)]; exact c1)]
theorem owns_set {W : World} {B : Nat} {t : TypeId} {k n : Nat} {v : Value} {xs : List Value} (h : W.ownsRow B t k v n xs) {b : Nat} (hb : b < B) (o : Nat) (u : Value) : (W.setCell ⟨b, o, none⟩ u).ownsRow B t k v n xs := by
  refine ⟨h.1, ?_⟩
  rcases h.2 with h | ⟨g, cap, cur, h1, h2, h3, h4⟩
  · exact .inl h
  · exact .inr ⟨g, cap, cur, h1, h2, (Below.heap_setCell W ⟨b, o, none⟩ u g (by show g ≠ b; omega)).trans h3, h4⟩
theorem OwnR.set {W : World} {B : Nat} {v : Value} {R : List Rw} (h : OwnR W B v R) {b : Nat} (hb : b < B) (o : Nat) (u : Value) : OwnR (W.setCell ⟨b, o, none⟩ u) B v R :=
  ⟨owns_set h.o hb o u, fun x hx => owns_set (h.i x hx) hb o u, h.z⟩
/-- what Of says of its error -/
noncomputable def ofC (cols : List ByteArray) (R : List Rw) : Int :=
  if colsB cols = true ∧ longB cols.length R = true then (if (putsG ordR (txR R)).length ≤ 100000 then 0 else 140) else 2
/-- a relation that is answered, with its error -/
def OfEnd (w : World) (cols : List ByteArray) (R : List Rw) (e : Ending) (w' : World) : Prop :=
  Below w.heap.size w w' ∧ ∃ vc vr, e = .returned (.tuple #[.agg #[vc, vr], .int .i64 (ofC cols R)]) ∧
    ((ofC cols R = 0 ∧ OwnC w' w.heap.size vc cols ∧ ∃ R', OwnR w' w.heap.size vr R' ∧ txR R' = putsG ordR (txR R)) ∨ (ofC cols R ≠ 0 ∧ vc = .slice none 0 0 ∧ vr = .slice none 0 0))
theorem becomes_clone {R : List Rw} {w : World} (hs : ∀ r ∈ R, RwOk w w.heap.size r) (hl : ∀ r ∈ R, r.l.length ≤ 1000000000000) : Becomes 48 #[] (fun l => l) R w := fun r hr W hb =>
  cloneV_any r.A r.c r.l W W.heap.size ((hs r hr).up hb (Nat.le_refl _)).s (hs r hr).n (Nat.le_refl _) (hl r hr)
theorem eg_clone : ∀ args w, (callFunc 48 args).run Try.prog w = .ok (.enter 48 args) w := enters_of Try.func48 (by kernel_rfl) rfl

set_option maxRecDepth 100000 in
set_option maxHeartbeats 2000000 in
theorem of_any (A : Option Addr) (c : Nat) (cols : List ByteArray) (A' : Option Addr) (c' : Nat) (R : List Rw) (w : World) (hc : SlC w w.heap.size A cols) (hR : SlR w w.heap.size A' R) (hn : A = none → cols.length = 0 ∧ c = 0) (hn' : A' = none → R.length = 0 ∧ c' = 0) (hcc : cols.length ≤ c)
    (hl : cols.length ≤ 1000000000000) (hl' : R.length ≤ 1000000000000) (hll : ∀ r ∈ R, r.l.length ≤ 1000000000000) :
    Calls Try.prog 36 #[.slice A cols.length c, .slice A' R.length c'] w (OfEnd w cols R) := by
  have HC := Lib.hid hc
  have HR := Lib.hid hR
  have HN := Lib.hid hn
  have HN' := Lib.hid hn'
  have HLL := Lib.hid hll
  clear hc hR hn hn' hll
  have HB0 : Hid (Below w.heap.size w (w.alloc (.cells #[.slice none 0 0, .slice none 0 0] 34))) := (Below.refl _ _).alloc (Nat.le_refl _) _
  obtain ⟨w0, hw0⟩ : ∃ w0, w.alloc (.cells #[.slice none 0 0, .slice none 0 0] 34) = w0 := ⟨_, rfl⟩
  have c0 : w0.cell? ⟨w.heap.size, 0, none⟩ = some (.slice none 0 0) := by rw [← hw0, World.cell?_alloc_new]; rfl
  have c1 : w0.cell? ⟨w.heap.size, 1, none⟩ = some (.slice none 0 0) := by rw [← hw0, World.cell?_alloc_new]; rfl
  have f0 : w0.frozen? ⟨w.heap.size, 0, none⟩ = false := by rw [← hw0]; simp
  have f1 : w0.frozen? ⟨w.heap.size, 1, none⟩ = false := by rw [← hw0]; simp
  have hz0 : w0.heap.size = w.heap.size + 1 := by rw [← hw0]; simp
  rw [hw0] at HB0
  have HZ0 := Lib.hid hz0
  have HCa := Lib.hid (areCols_any A c cols w0 w.heap.size (HC.out.next HB0.out (Nat.le_refl _)) (by omega) hcc)
  have HLa := Lib.hid (areAsLong_any cols.length A' c' R w0 w.heap.size (HR.out.next HB0.out (Nat.le_refl _)) HB0.out.size (by omega))
  clear hz0
  by_cases hq1 : colsB cols = true
  · rw [hq1] at HCa
    have HQ1 := Lib.hid hq1
    by_cases hq2 : longB cols.length R = true
    · rw [hq2] at HLa
      have HQ2 := Lib.hid hq2
      clear hq1 hq2
      go_enter Try.func36, Try.ntmps36
      go_wp2_with fail
      refine HCa.out.mono ?_
      rintro e w' ⟨rfl, rfl⟩
      go_wp2_with fail
      refine HLa.out.mono ?_
      rintro e w1 ⟨rfl, hb1⟩
      have HB1 := Lib.hid (HB0.out.trans (hb1.mono HB0.out.size))
      have hlt0 : w.heap.size < w0.heap.size := by have := HZ0.out; omega
      have c0 := (hb1.cell (p := ⟨w.heap.size, 0, none⟩) hlt0).trans c0
      have c1 := (hb1.cell (p := ⟨w.heap.size, 1, none⟩) hlt0).trans c1
      have f0 := (hb1.frozen (p := ⟨w.heap.size, 0, none⟩) hlt0).trans f0
      have f1 := (hb1.frozen (p := ⟨w.heap.size, 1, none⟩) hlt0).trans f1
      have HZ1 : Hid (w.heap.size < w1.heap.size) := Nat.lt_of_lt_of_le hlt0 hb1.size
      clear hw0 hb1 hlt0
      go_wp2_with fail
      refine (cloneR_any A' c' R w1 w1.heap.size ((HR.out.next HB1.out (Nat.le_refl _)).more HB1.out.size).s HN'.out (Nat.le_refl _) hl').mono ?_
      rintro e w2 ⟨v2, rfl, ho2, hb2⟩
      have HB2 := Lib.hid (HB1.out.trans (hb2.mono HB1.out.size))
      have HRW := Lib.hid (fun r hr => (HR.out.r r hr).up HB2.out (Nat.le_refl _))
      have HFAR : Hid (∀ r ∈ R, r.l ≠ [] → ∀ b o, r.A = some ⟨b, o, none⟩ → b < w.heap.size) := fun r hr hne b o e => by
        obtain ⟨b', o', e', hlt, _⟩ := (HR.out.r r hr).s hne
        rw [e] at e'
        injection e' with e'
        injection e' with e' _
        omega
      have HSO := Lib.hid (sorted_any w1.heap.size v2 R w2 ho2 (fun g hg r hr => ⟨HRW.out r hr, fun hne b o e => by
        obtain ⟨n, cc, e2⟩ := hg
        obtain ⟨A3, c3, e3, _, _, _, _, h4⟩ := ho2.form
        rw [e2] at e3
        injection e3 with e3
        obtain ⟨g3, e4, h5, _⟩ := h4 _ e3.symm
        injection e4 with e4
        have := HFAR.out r hr hne b o e
        have := HB1.out.size
        omega⟩) hl')
      obtain ⟨A9, c9, rfl, _⟩ := ho2.form
      clear ho2
      have c0 := (hb2.cell (p := ⟨w.heap.size, 0, none⟩) HZ1.out).trans c0
      have c1 := (hb2.cell (p := ⟨w.heap.size, 1, none⟩) HZ1.out).trans c1
      have f0 := (hb2.frozen (p := ⟨w.heap.size, 0, none⟩) HZ1.out).trans f0
      have f1 := (hb2.frozen (p := ⟨w.heap.size, 1, none⟩) HZ1.out).trans f1
      have HZ2 : Hid (w1.heap.size ≤ w2.heap.size) := hb2.size
      clear hb2
      go_wp2_with fail
      refine HSO.out.mono ?_
      rintro e w3 ⟨A3, n3, c3, e3, hg3, R3, c4, htx, hin, rfl, hlc, hcm, hsl, hrow, hnone⟩
      have HB3 : Hid (Below w1.heap.size w2 w3) := by
        cases A3 with
        | none =>
          obtain ⟨rfl, _⟩ := hnone rfl
          exact Below.refl _ _
        | some a =>
          obtain ⟨g, rfl, h1, h2⟩ := hg3 a rfl
          exact (hrow g rfl).2.below h1 h2
      have HBW : Hid (Below w.heap.size w w3) := HB2.out.trans (HB3.out.mono HB1.out.size)
      have hlt1 := HZ1.out
      have c0 := (HB3.out.cell (p := ⟨w.heap.size, 0, none⟩) hlt1).trans c0
      have c1 := (HB3.out.cell (p := ⟨w.heap.size, 1, none⟩) hlt1).trans c1
      have f0 := (HB3.out.frozen (p := ⟨w.heap.size, 0, none⟩) hlt1).trans f0
      have f1 := (HB3.out.frozen (p := ⟨w.heap.size, 1, none⟩) hlt1).trans f1
      have hln : R3.length = (putsG ordR (txR R)).length := by rw [← htx, txR_len]
      have HTX := Lib.hid htx
      have HIN := Lib.hid hin
      have HZ3 : Hid (w.heap.size < w3.heap.size) := Nat.lt_of_lt_of_le hlt1 (Nat.le_trans HZ2.out HB3.out.size)
      have hl3 : R3.length ≤ 1000000000000 := by
        have := putsG_len (o := ordR) (txR R)
        rw [txR_len] at this
        omega
      have HR3 : Hid (SlR w3 w3.heap.size A3 R3) := ⟨hsl, fun r hr => (HR.out.r r (HIN.out r hr)).up HBW.out (Nat.le_refl _)⟩
      clear htx hin hg3 hrow hnone hlt1 e3 hsl HSO
      by_cases hq : R3.length ≤ 100000
      · have hqi : ¬ (100000 : Int) < (R3.length : Int) := by omega
        have HE : Hid (ofC cols R = 0) := by
          show _ = _
          unfold ofC
          rw [if_pos ⟨HQ1.out, HQ2.out⟩, if_pos (by omega)]
        clear hln
        go_wp2_with fail
        refine (cloneS_any A c cols w3 w3.heap.size ((HC.out.next HBW.out (Nat.le_refl _)).more HBW.out.size) HN.out (Nat.le_refl _) hl).mono ?_
        rintro e w4 ⟨v4, rfl, ho4, hb4⟩
        obtain ⟨A5, c5, rfl, _⟩ := ho4.form
        have HO4 := Lib.hid ho4
        have HBW4 : Hid (Below w.heap.size w w4) := HBW.out.trans (hb4.mono HBW.out.size)
        have c0 := (hb4.cell (p := ⟨w.heap.size, 0, none⟩) HZ3.out).trans c0
        have c1 := (hb4.cell (p := ⟨w.heap.size, 1, none⟩) HZ3.out).trans c1
        have f0 := (hb4.frozen (p := ⟨w.heap.size, 0, none⟩) HZ3.out).trans f0
        have f1 := (hb4.frozen (p := ⟨w.heap.size, 1, none⟩) HZ3.out).trans f1
        have HR4 := Lib.hid (HR3.out.up hb4 (Nat.le_refl _))
        have HZ4 : Hid (w.heap.size < w4.heap.size) := Nat.lt_of_lt_of_le HZ3.out hb4.size
        clear ho4 hb4
        have HGA := Lib.hid (gathR_any 48 #[] (fun l => l) A3 c4 R3 w4 HR4.out hl3 eg_clone (becomes_clone HR4.out.r fun r hr => HLL.out r (HIN.out r hr)) fun r hr => (HR4.out.r r hr).z)
        go_wp2_with fail
        refine HGA.out.mono ?_
        rintro e w5 ⟨v5, R5, rfl, ho5, htx5, hb5⟩
        obtain ⟨A6, c6, rfl, _⟩ := ho5.form
        have c0 := (hb5.cell (p := ⟨w.heap.size, 0, none⟩) HZ4.out).trans c0
        have c1 := (hb5.cell (p := ⟨w.heap.size, 1, none⟩) HZ4.out).trans c1
        have f0 := (hb5.frozen (p := ⟨w.heap.size, 0, none⟩) HZ4.out).trans f0
        have f1 := (hb5.frozen (p := ⟨w.heap.size, 1, none⟩) HZ4.out).trans f1
        have HBW5 : Hid (Below w.heap.size w w5) := HBW4.out.trans (hb5.mono HBW4.out.size)
        have HO5 := Lib.hid ho5
        have HB5 := Lib.hid hb5
        have HTX5 : Hid (txR R5 = putsG ordR (txR R)) := by
          show _ = _
          rw [htx5, ← HTX.out]; rfl
        clear ho5 htx5 hb5
        have HC2 := Lib.hid (cells_two (v0 := .slice A5 cols.length c5) (v1 := .slice A6 R5.length c6) c0 c1)
        go_wp2
        refine bodyPost_ret (v := .tuple #[.agg #[.slice A5 cols.length c5, .slice A6 R5.length c6], .int .i64 0]) (by rw [results_ct rfl]; obtain ⟨x0, x1⟩ := HC2.out; clear c0 c1; go_simp) rfl ?_
        refine ⟨(HBW5.out.setCell (p := ⟨w.heap.size, 0, none⟩) (Nat.le_refl _) _).setCell (p := ⟨w.heap.size, 1, none⟩) (Nat.le_refl _) _, _, _, by rw [HE.out], .inl ⟨HE.out, ?_, R5, ?_, HTX5.out⟩⟩
        · exact owns_low (owns_set (owns_set (owns_next HO4.out HB5.out) HZ3.out _ _) HZ3.out _ _) (Nat.le_of_lt HZ3.out)
        · exact ((HO5.out.set HZ4.out _ _).set HZ4.out _ _).low (Nat.le_of_lt HZ4.out)
      · have hqi : (100000 : Int) < (R3.length : Int) := by omega
        have HE : Hid (ofC cols R = 140) := by
          show _ = _
          unfold ofC
          rw [if_pos ⟨HQ1.out, HQ2.out⟩, if_neg (by omega)]
        clear hln
        have HC2 := Lib.hid (cells_two (v0 := .slice none 0 0) (v1 := .slice none 0 0) c0 c1)
        go_wp2
        refine bodyPost_ret (v := .tuple #[.agg #[.slice none 0 0, .slice none 0 0], .int .i64 140]) (by rw [results_ct rfl]; obtain ⟨x0, x1⟩ := HC2.out; clear c0 c1; go_simp) rfl ?_
        refine ⟨(HBW.out.setCell (p := ⟨w.heap.size, 0, none⟩) (Nat.le_refl _) _).setCell (p := ⟨w.heap.size, 1, none⟩) (Nat.le_refl _) _, _, _, ?_, .inr ⟨?_, rfl, rfl⟩⟩
        · rw [HE.out]
        · rw [HE.out]; decide
    · rw [Bool.not_eq_true] at hq2
      rw [hq2] at HLa
      have HE : Hid (ofC cols R = 2) := by show _ = _; unfold ofC; rw [hq2, if_neg (by simp)]
      clear hq1 hq2
      go_enter Try.func36, Try.ntmps36
      go_wp2_with fail
      refine HCa.out.mono ?_
      rintro e w' ⟨rfl, rfl⟩
      go_wp2_with fail
      refine HLa.out.mono ?_
      rintro e w1 ⟨rfl, hb1⟩
      have HB1 := Lib.hid (HB0.out.trans (hb1.mono HB0.out.size))
      have hlt0 : w.heap.size < w0.heap.size := by have := HZ0.out; omega
      have c0 := (hb1.cell (p := ⟨w.heap.size, 0, none⟩) hlt0).trans c0
      have c1 := (hb1.cell (p := ⟨w.heap.size, 1, none⟩) hlt0).trans c1
      have f0 := (hb1.frozen (p := ⟨w.heap.size, 0, none⟩) hlt0).trans f0
      have f1 := (hb1.frozen (p := ⟨w.heap.size, 1, none⟩) hlt0).trans f1
      clear hw0 hb1 hlt0
      have HC2 := Lib.hid (cells_two (v0 := .slice none 0 0) (v1 := .slice none 0 0) c0 c1)
      go_wp2
      refine bodyPost_ret (v := .tuple #[.agg #[.slice none 0 0, .slice none 0 0], .int .i64 2]) (by rw [results_ct rfl]; obtain ⟨x0, x1⟩ := HC2.out; clear c0 c1; go_simp) rfl ?_
      refine ⟨(HB1.out.setCell (p := ⟨w.heap.size, 0, none⟩) (Nat.le_refl _) _).setCell (p := ⟨w.heap.size, 1, none⟩) (Nat.le_refl _) _, _, _, ?_, .inr ⟨?_, rfl, rfl⟩⟩
      · rw [HE.out]
      · rw [HE.out]; decide
  · rw [Bool.not_eq_true] at hq1
    rw [hq1] at HCa
    have HE : Hid (ofC cols R = 2) := by show _ = _; unfold ofC; rw [hq1, if_neg (by simp)]
    clear hq1
    go_enter Try.func36, Try.ntmps36
    go_wp2_with fail
    refine HCa.out.mono ?_
    rintro e w' ⟨rfl, rfl⟩
    clear hw0
    have HC2 := Lib.hid (cells_two (v0 := .slice none 0 0) (v1 := .slice none 0 0) c0 c1)
    go_wp2
    refine bodyPost_ret (v := .tuple #[.agg #[.slice none 0 0, .slice none 0 0], .int .i64 2]) (by rw [results_ct rfl]; obtain ⟨x0, x1⟩ := HC2.out; clear c0 c1; go_simp) rfl ?_
    refine ⟨(HB0.out.setCell (p := ⟨w.heap.size, 0, none⟩) (Nat.le_refl _) _).setCell (p := ⟨w.heap.size, 1, none⟩) (Nat.le_refl _) _, _, _, ?_, .inr ⟨?_, rfl, rfl⟩⟩
    · rw [HE.out]
    · rw [HE.out]; decide
end Go.Proofs.Ytofmfainhflmmaa

/-
  CONTRACTS: the law's same, told.
-/
namespace Go.Proofs.Ytofmfainhflmmaa
open Go.RowKit


set_option maxRecDepth 100000 in
set_option maxHeartbeats 4000000 in
theorem sameL_any (A1 A2 A3 A4 : Option Addr) (c1 c2 c3 c4 : Nat) (l1 l2 : List ByteArray) (R1 R2 : List Rw) (w : World) (hs1 : SlC w w.heap.size A1 l1) (hs2 : SlC w w.heap.size A3 l2) (hr1 : SlR w w.heap.size A2 R1) (hr2 : SlR w w.heap.size A4 R2)
    (hl1 : l1.length ≤ 1000000000) (hl2 : l2.length ≤ 1000000000) (hl3 : R1.length ≤ 1000000000) (hl4 : R2.length ≤ 1000000000) :
    Calls Try.prog 29 #[.agg #[.slice A1 l1.length c1, .slice A2 R1.length c2], .agg #[.slice A3 l2.length c3, .slice A4 R2.length c4]] w fun e w' => e = .returned (.bool (sameB l1 l2 (txR R1) (txR R2))) ∧ Below w.heap.size w w' := by
  have HCALL := Lib.hid (fun W (hb : Below w.heap.size w W) => sameRel_any A1 A2 A3 A4 c1 c2 c3 c4 l1 l2 R1 R2 W (hs1.up hb (Nat.le_refl _)) (hs2.up hb (Nat.le_refl _)) (hr1.up hb (Nat.le_refl _)) (hr2.up hb (Nat.le_refl _)) hl1 hl2 hl3 hl4)
  clear hs1 hs2 hr1 hr2
  obtain ⟨n1, hn1⟩ : ∃ n, l1.length = n := ⟨_, rfl⟩
  obtain ⟨n2, hn2⟩ : ∃ n, l2.length = n := ⟨_, rfl⟩
  obtain ⟨n3, hn3⟩ : ∃ n, R1.length = n := ⟨_, rfl⟩
  obtain ⟨n4, hn4⟩ : ∃ n, R2.length = n := ⟨_, rfl⟩
  rw [hn1, hn2, hn3, hn4] at HCALL
  rw [hn1, hn2, hn3, hn4]
  obtain ⟨q, hq⟩ : ∃ q, sameB l1 l2 (txR R1) (txR R2) = q := ⟨_, rfl⟩
  rw [hq] at HCALL ⊢
  clear hn1 hn2 hn3 hn4 hq hl1 hl2 hl3 hl4
  obtain ⟨wa, hwa⟩ : ∃ wa, w.alloc (.cells #[.slice A1 n1 c1, .slice A2 n3 c2] 34) = wa := ⟨_, rfl⟩
  have hza : wa.heap.size = w.heap.size + 1 := by rw [← hwa]; simp
  have hba : Below w.heap.size w wa := by rw [← hwa]; exact (Below.refl _ _).alloc (Nat.le_refl _) _
  have a0 : wa.cell? ⟨w.heap.size, 0, none⟩ = some (.slice A1 n1 c1) := by rw [← hwa, World.cell?_alloc_new]; rfl
  have a1 : wa.cell? ⟨w.heap.size, 1, none⟩ = some (.slice A2 n3 c2) := by rw [← hwa, World.cell?_alloc_new]; rfl
  obtain ⟨wb, hwb⟩ : ∃ wb, wa.alloc (.cells #[.slice A3 n2 c3, .slice A4 n4 c4] 34) = wb := ⟨_, rfl⟩
  have hzb : wb.heap.size = wa.heap.size + 1 := by rw [← hwb]; simp
  have hbb : Below wa.heap.size wa wb := by rw [← hwb]; exact (Below.refl _ _).alloc (Nat.le_refl _) _
  have b0 : wb.cell? ⟨wa.heap.size, 0, none⟩ = some (.slice A3 n2 c3) := by rw [← hwb, World.cell?_alloc_new]; rfl
  have b1 : wb.cell? ⟨wa.heap.size, 1, none⟩ = some (.slice A4 n4 c4) := by rw [← hwb, World.cell?_alloc_new]; rfl
  have hla : w.heap.size < wa.heap.size := by omega
  have hlb : wa.heap.size < wb.heap.size := by omega
  have a0 := (hbb.cell (p := ⟨w.heap.size, 0, none⟩) hla).trans a0
  have a1 := (hbb.cell (p := ⟨w.heap.size, 1, none⟩) hla).trans a1
  have HBB : Hid (Below w.heap.size w wb) := hba.trans (hbb.mono hba.size)
  have HCELL := Lib.hid (show wb.cell? ⟨w.heap.size, 0, none⟩ = some (.slice A1 n1 c1) ∧ wb.cell? ⟨w.heap.size, 1, none⟩ = some (.slice A2 n3 c2) ∧ wb.cell? ⟨wa.heap.size, 0, none⟩ = some (.slice A3 n2 c3) ∧ wb.cell? ⟨wa.heap.size, 1, none⟩ = some (.slice A4 n4 c4) ∧ w.heap.size < wb.heap.size ∧ wa.heap.size < wb.heap.size from ⟨a0, a1, b0, b1, by omega, by omega⟩)
  clear hza hba hzb hbb hla hlb a0 a1 b0 b1
  go_enter Try.func29, Try.ntmps29
  go_wp2_with fail
  clear hwa hwb
  obtain ⟨wd, hwd⟩ : ∃ wd, wb.drew = wd := ⟨_, rfl⟩
  have HSN : Hid (Snc wb wd) := by show Snc _ _; rw [← hwd]; exact (Below.refl _ _).drew
  refine wp_region_held_drew (S := Snc wb) (by kernel_rfl) (by rw [hwd]; exact HSN.out) (fun hHeld => ?_)
  rw [hwd] at hHeld ⊢
  clear hwd
  refine takeV 0 (some 5) ((.agg #[.slice A1 n1 c1, .slice A2 n3 c2])) rfl rfl (by kernel_rfl) (by kernel_rfl) (by kernel_rfl) (fun _ _ _ h => h) (by rfl) (by (intro _w hSw; have k0 := (Below.cell (p := ⟨w.heap.size, 0, none⟩) hSw HCELL.out.2.2.2.2.1).trans HCELL.out.1; have k1 := (Below.cell (p := ⟨w.heap.size, 1, none⟩) hSw HCELL.out.2.2.2.2.1).trans HCELL.out.2.1; clear hSw; go_simp)) (by assumption) ?_
  simp only [Act.put, List.setIfInBounds_toArray, List.set_cons_zero, List.set_cons_succ]
  refine takeV 2 (some 7) ((.agg #[.slice A3 n2 c3, .slice A4 n4 c4])) rfl rfl (by kernel_rfl) (by kernel_rfl) (by kernel_rfl) (fun _ _ _ h => h) (by rfl) (by (intro _w hSw; have k0 := (Below.cell (p := ⟨wa.heap.size, 0, none⟩) hSw HCELL.out.2.2.2.2.2).trans HCELL.out.2.2.1; have k1 := (Below.cell (p := ⟨wa.heap.size, 1, none⟩) hSw HCELL.out.2.2.2.2.2).trans HCELL.out.2.2.2.1; clear hSw; go_simp)) (by assumption) ?_
  simp only [Act.put, List.setIfInBounds_toArray, List.set_cons_zero, List.set_cons_succ]
  refine callV 1 rfl (by kernel_rfl) (by rfl) (fun K hK => ?_)
  go_simp
  refine (ref_any _ _ _ _ _ _ _ _ rfl rfl _).mono ?_
  rintro e w3 ⟨rfl, hb3⟩
  refine hK.out _ _ (hHeld.next hb3) (fun hHeld3 => ?_)
  clear hK K hHeld hb3
  try simp only [Act.put, List.setIfInBounds_toArray, List.set_cons_zero, List.set_cons_succ]
  refine callV 3 rfl (by kernel_rfl) (by rfl) (fun K hK => ?_)
  go_simp
  refine (ref_any _ _ _ _ _ _ _ _ rfl rfl _).mono ?_
  rintro e w4 ⟨rfl, hb4⟩
  refine hK.out _ _ (hHeld3.next hb4) (fun hHeld4 => ?_)
  clear hK K hHeld3 hb4
  try simp only [Act.put, List.setIfInBounds_toArray, List.set_cons_zero, List.set_cons_succ]
  refine callV 4 rfl (by kernel_rfl) (by rfl) (fun K hK => ?_)
  go_simp
  refine (HCALL.out _ (HBB.out.trans (Below.mono hHeld4 HBB.out.size))).mono ?_
  rintro e w5 ⟨rfl, hb5⟩
  have HB5 := Lib.hid (hHeld4.next hb5)
  refine hK.out _ _ (hHeld4.next hb5) (fun _ => ?_)
  clear hK K hHeld4 hb5
  try simp only [Act.put, List.setIfInBounds_toArray, List.set_cons_zero, List.set_cons_succ]
  refine takeV 5 (some 4) ((.bool q)) rfl rfl (by kernel_rfl) (by kernel_rfl) (by kernel_rfl) (fun _ _ _ h => h) (by rfl) (by (intro _w _hSw; (try dsimp only at _hSw); go_simp)) (by assumption) ?_
  simp only [Act.put, List.setIfInBounds_toArray, List.set_cons_zero, List.set_cons_succ]
  refine wpAnyH_done (by kernel_rfl) ?_ _
  go_wp2
  go_ret
  exact ⟨rfl, HBB.out.trans (Below.mono HB5.out HBB.out.size)⟩

/-- so many cells that may be written, from B on, ahead of M -/
def WrN (W : World) (B M : Nat) (A : Option Addr) (n : Nat) : Prop := 0 < n → ∃ b, A = some ⟨b, 0, none⟩ ∧ B ≤ b ∧ b < M ∧ ∀ j, j < n → (W.cell? ⟨b, j, none⟩).isSome = true ∧ W.frozen? ⟨b, j, none⟩ = false
theorem isSome_set {W : World} {p q : Addr} {u : Value} (h : (W.cell? p).isSome = true) : ((W.setCell q u).cell? p).isSome = true := by
  by_cases e : p = q
  · subst e
    obtain ⟨v, hv⟩ := Option.isSome_iff_exists.1 h
    rw [World.cell?_setCell_same _ _ _ hv]; rfl
  · rw [World.cell?_setCell_other _ _ _ _ (by first | exact e | exact fun h => e h.symm)]; exact h
theorem WrN.set {W : World} {B M : Nat} {A : Option Addr} {n : Nat} (h : WrN W B M A n) (p : Addr) (u : Value) : WrN (W.setCell p u) B M A n := fun hn => by
  obtain ⟨b, e, h1, h2, h3⟩ := h hn
  exact ⟨b, e, h1, h2, fun j hj => ⟨isSome_set (h3 j hj).1, by simpa using (h3 j hj).2⟩⟩
theorem WrN.next {W W' : World} {B M : Nat} {A : Option Addr} {n : Nat} (h : WrN W B M A n) (hb : Below M W W') : WrN W' B M A n := fun hn => by
  obtain ⟨b, e, h1, h2, h3⟩ := h hn
  exact ⟨b, e, h1, h2, fun j hj => ⟨by rw [hb.cell (p := ⟨b, j, none⟩) h2]; exact (h3 j hj).1, (hb.frozen (p := ⟨b, j, none⟩) h2).trans (h3 j hj).2⟩⟩
theorem owns_wr {W : World} {B : Nat} {t : TypeId} {k n c : Nat} {A : Option Addr} {xs : List Value} (h : W.ownsRow B t k (.slice A n c) n xs) (hx : xs.length = n * k) : WrN W B W.heap.size A (n * k) := fun hn => by
  rcases h.2 with ⟨_, h0⟩ | ⟨g, cap, cur, e, hB, hgb, _⟩
  · rw [h0] at hn; omega
  · injection e with e1 e2 e3
    subst e1 e3
    refine ⟨g, rfl, hB, (Array.getElem?_eq_some_iff.1 hgb).1, fun j hj => ⟨?_, h.frozenAt j⟩⟩
    rw [h.cellAt j hj, List.getElem?_eq_getElem (by omega)]; rfl
/-- a list of rows that a call answers: new memory -/
structure AnsR (W : World) (B : Nat) (v : Value) (R : List Rw) : Prop where
  f : ∃ A c, v = .slice A R.length c ∧ Sl1 cellR W W.heap.size A R ∧ R.length ≤ c ∧ c ≤ maxLen ∧ (A = none → R.length = 0 ∧ c = 0) ∧ (∀ x ∈ R, x.l ≠ [] → ∀ a b, A = some a → x.A = some b → a.block ≠ b.block)
  i : ∀ x ∈ R, OwnV W B (cellR x) x.l
  z : ∀ x ∈ R, zOk x.l
theorem OwnR.ans {W : World} {B : Nat} {v : Value} {R : List Rw} (h : OwnR W B v R) : AnsR W B v R := by
  obtain ⟨A, c, e, hs, h1, h2, h3, _⟩ := h.o.form
  refine ⟨⟨A, c, e, hs, h1, h2, h3, fun x hx hne a b e1 e2 e3 => ?_⟩, h.i, h.z⟩
  have ho := h.o
  have hi := h.i x hx
  subst e e1
  rcases ho.2 with ⟨ea, _⟩ | ⟨g, cap, cur, ea, _, hga, _⟩
  · cases ea
  · rcases hi.2 with ⟨eb, h0⟩ | ⟨g', cap', cur', eb, _, hgb, _⟩
    · exact hne (List.length_eq_zero_iff.1 h0)
    · injection ea with ea
      injection ea with ea
      unfold cellR at eb
      injection eb with eb
      rw [e2] at eb
      injection eb with eb
      rw [ea, eb] at e3
      simp only at e3
      subst e3
      rw [hga] at hgb
      injection hgb with hgb
      injection hgb with _ hgb _
      exact absurd hgb (by decide)
end Go.Proofs.Ytofmfainhflmmaa
