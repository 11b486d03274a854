import Derived.Test.YtofmfainhflmmaaJZJoinU
import Derived.Test.YtofmfainhflmmaaJZAt
import Derived.Test.YtofmfainhflmmaaJZRefProj
/-
  CONTRACT: the document's agree: two rows, of two relations, say the same of the columns that both have.
-/
namespace Go.Proofs.Ytofmfainhflmmaa
open Go.RowKit
open VOrd (ordT)

set_option maxRecDepth 100000 in
set_option maxHeartbeats 4000000 in
theorem refAgree_any (A A' A2 A2' : Option Addr) (c c' c2 c2' n n' : Nat) (ca cb : List ByteArray) (x y : Rw) (w : World) (hA : SlC w w.heap.size A ca) (hB : SlC w w.heap.size A2 cb) (hx : RwOk w w.heap.size x) (hy : RwOk w w.heap.size y) (hla : ca.length ≤ 1000000000) (hlb : cb.length ≤ 1000000000) (hxl : x.l.length = ca.length) (hyl : y.l.length = cb.length) :
    Calls Try.prog 60 #[.agg #[.slice A ca.length c, .slice A' n c'], .agg #[.slice A2 cb.length c2, .slice A2' n' c2'], cellR x, cellR y] w fun e w' => ((e = .returned (.bool true) ∧ agP ca cb x.l y.l) ∨ (e = .returned (.bool false) ∧ ¬ agP ca cb x.l y.l)) ∧ Below w.heap.size w w' := by
  have HA := Lib.hid hA
  have HB := Lib.hid hB
  have HX := Lib.hid hx
  have HY := Lib.hid hy
  have HXL := Lib.hid hxl
  have HYL := Lib.hid hyl
  clear hA hB hx hy hxl hyl
  obtain ⟨w0, hw0⟩ : ∃ w0, (w.alloc (.cells #[.slice A ca.length c, .slice A' n c'] 43)).alloc (.cells #[.slice A2 cb.length c2, .slice A2' n' c2'] 43) = w0 := ⟨_, rfl⟩
  have hs1 : (w.alloc (.cells #[.slice A ca.length c, .slice A' n c'] 43)).heap.size = w.heap.size + 1 := by simp
  have HB0 : Hid (Below w.heap.size w w0) := by show Below _ _ _; rw [← hw0]; exact ((Below.refl _ _).alloc (Nat.le_refl _) _).alloc (by simp) _
  have ya : w0.cell? ⟨w.heap.size, 0, none⟩ = some (.slice A ca.length c) := by
    rw [← hw0, World.cell?_alloc_lt _ _ _ (by simp), World.cell?_alloc_new]; rfl
  have yb : w0.cell? ⟨w.heap.size + 1, 0, none⟩ = some (.slice A2 cb.length c2) := by
    rw [← hw0, ← hs1, World.cell?_alloc_new]; rfl
  have hlt : w.heap.size + 1 < w0.heap.size := by rw [← hw0]; simp
  have HC0 := Lib.hid (show w0.cell? ⟨w.heap.size, 0, none⟩ = some (.slice A ca.length c) ∧ w0.cell? ⟨w.heap.size + 1, 0, none⟩ = some (.slice A2 cb.length c2) ∧ w.heap.size + 1 < w0.heap.size from ⟨ya, yb, hlt⟩)
  clear hlt hs1
  obtain ⟨A3, c3, l⟩ := x
  obtain ⟨A4, c4, r⟩ := y
  unfold cellR
  simp only at HXL HYL ⊢
  go_enter Try.func60, Try.ntmps60
  go_wp2
  go_loopg [9] ca.length (fun g x9 wr => ∃ j : Nat, x9 = .int .i64 j ∧ j + g = ca.length ∧ Hid (∀ (i : Nat) (c : ByteArray) (u v : Vl), i < j → ca[i]? = some c → hasS c cb = true → l[i]? = some u → r[plS c cb]? = some v → ordT u v = 0) ∧ Hid (Below w0.heap.size w0 wr))
  case atStart => exact ⟨0, rfl, by omega, fun i c u v h => absurd h (Nat.not_lt_zero _), Below.refl _ _⟩
  case round =>
    clear ya yb hw0
    obtain ⟨j, rfl, hj, HJ, HBR⟩ := hrel
    have ya := (HBR.out.cell (p := ⟨w.heap.size, 0, none⟩) (by have := HC0.out.2.2; show w.heap.size < _; omega)).trans HC0.out.1
    have HLT : Hid (w.heap.size + 1 < wr.heap.size) := Nat.lt_of_lt_of_le HC0.out.2.2 HBR.out.size
    have HBW : Hid (Below w.heap.size w wr) := HB0.out.trans (HBR.out.mono HB0.out.size)
    cases gk with
    | zero =>
      have hji : ¬ (j : Int) < (ca.length : Int) := by omega
      have HE : Hid (agP ca cb l r) := fun i c u v h1 h2 h3 h4 => HJ.out i c u v (by have := (List.getElem?_eq_some_iff.1 h1).1; omega) h1 h2 h3 h4
      go_wp2
      go_ret
      exact ⟨.inl ⟨rfl, HE.out⟩, HBW.out⟩
    | succ g =>
      have hji : (j : Int) < (ca.length : Int) := by omega
      have hjn : j < ca.length := by omega
      obtain ⟨b1, o1, rfl, hb1, p1⟩ := (Sl1.up HA.out HBW.out (Nat.le_refl _)).at_ hjn
      have HCJ : Hid (ca[j]? = some ca[j]) := List.getElem?_eq_getElem hjn
      obtain ⟨cx, hcx⟩ : ∃ x, ca[j] = x := ⟨_, rfl⟩
      rw [hcx] at p1 HCJ
      unfold strV at p1
      have HP1 := Lib.hid (And.intro p1 hb1)
      have hjl : j < l.length := by rw [HXL.out]; exact hjn
      have hjli : (j : Int) < (l.length : Int) := by omega
      obtain ⟨b3, o3, rfl, hb3, q1⟩ := ((HX.out.up HBW.out (Nat.le_refl _)).s).at_ hjl
      have hxe : l[j]? = some l[j] := List.getElem?_eq_getElem hjl
      have hxz := HX.out.z _ (List.getElem_mem hjl) |>.1
      obtain ⟨u, hu⟩ : ∃ u, l[j] = u := ⟨_, rfl⟩
      rw [hu] at q1 hxe hxz
      have HQ1 := Lib.hid (And.intro q1 hb3)
      have HXE := Lib.hid hxe
      have HXZ := Lib.hid hxz
      have HPL := Lib.hid (fun X (hX : Snc wr X) => place_any A2 c2 cb cx X X.heap.size (Sl1.up HB.out (HBW.out.trans (hX.mono HBW.out.size)) (Nat.le_refl _)) (by omega))
      clear hcx p1 hb1 hb3 q1 hxe hxz hu
      obtain ⟨wd, hwd⟩ : ∃ wd, wr.drew = wd := ⟨_, rfl⟩
      have HSN : Hid (Snc wr wd) := by show Snc _ _; rw [← hwd]; exact (Below.refl _ _).drew
      obtain ⟨z0, hz0⟩ : ∃ z, plI cx cb = z := ⟨_, rfl⟩
      rw [hz0] at HPL
      go_wp2_with fail
      refine wp_region_held_drew (S := Snc wr) (by kernel_rfl) (by rw [hwd]; exact HSN.out) (fun hHeld => ?_)
      rw [hwd] at hHeld ⊢
      clear hwd ya
      refine takeV 0 (some 19) ((.pointer (some ⟨w.heap.size + 1, 0, none⟩))) rfl rfl (by kernel_rfl) (by kernel_rfl) (by kernel_rfl) (fun _ _ _ h => h) (by rfl) (by (intro _w _hSw; (try dsimp only at _hSw); go_simp)) (by assumption) ?_
      simp only [Act.put, List.setIfInBounds_toArray, List.set_cons_zero, List.set_cons_succ]
      refine takeV 1 (some 20) ((.slice A2 cb.length c2)) rfl rfl (by kernel_rfl) (by kernel_rfl) (by kernel_rfl) (fun _ _ _ h => h) (by rfl) (by (intro _w hSw; have k0 := (Below.cell (p := ⟨w.heap.size + 1, 0, none⟩) hSw HLT.out).trans ((HBR.out.cell (p := ⟨w.heap.size + 1, 0, none⟩) HC0.out.2.2).trans HC0.out.2.1); clear hSw; go_simp)) (by assumption) ?_
      simp only [Act.put, List.setIfInBounds_toArray, List.set_cons_zero, List.set_cons_succ]
      refine takeV 2 (some 21) ((.pointer (some ⟨w.heap.size, 0, none⟩))) rfl rfl (by kernel_rfl) (by kernel_rfl) (by kernel_rfl) (fun _ _ _ h => h) (by rfl) (by (intro _w _hSw; (try dsimp only at _hSw); go_simp)) (by assumption) ?_
      simp only [Act.put, List.setIfInBounds_toArray, List.set_cons_zero, List.set_cons_succ]
      refine takeV 3 (some 22) ((.slice (some ⟨b1, o1, none⟩) ca.length c)) rfl rfl (by kernel_rfl) (by kernel_rfl) (by kernel_rfl) (fun _ _ _ h => h) (by rfl) (by (intro _w hSw; have k0 := (Below.cell (p := ⟨w.heap.size, 0, none⟩) hSw (by have := HLT.out; show w.heap.size < _; omega)).trans ((HBR.out.cell (p := ⟨w.heap.size, 0, none⟩) (by have := HC0.out.2.2; show w.heap.size < _; omega)).trans HC0.out.1); clear hSw; go_simp)) (by assumption) ?_
      simp only [Act.put, List.setIfInBounds_toArray, List.set_cons_zero, List.set_cons_succ]
      refine takeV 4 (some 23) ((.int .i64 j)) rfl rfl (by kernel_rfl) (by kernel_rfl) (by kernel_rfl) (fun _ _ _ h => h) (by rfl) (by (intro _w _hSw; (try dsimp only at _hSw); go_simp)) (by assumption) ?_
      simp only [Act.put, List.setIfInBounds_toArray, List.set_cons_zero, List.set_cons_succ]
      refine takeV 5 (some 24) ((.pointer (some ⟨b1, o1 + j, none⟩))) rfl rfl (by kernel_rfl) (by kernel_rfl) (by kernel_rfl) (fun _ _ _ h => h) (by rfl) (by (intro _w _hSw; (try dsimp only at _hSw); go_simp)) (by assumption) ?_
      simp only [Act.put, List.setIfInBounds_toArray, List.set_cons_zero, List.set_cons_succ]
      refine takeV 6 (some 25) ((.string cx)) rfl rfl (by kernel_rfl) (by kernel_rfl) (by kernel_rfl) (fun _ _ _ h => h) (by rfl) (by (intro _w hSw; have k0 := (Below.cell (p := ⟨b1, o1 + j, none⟩) hSw HP1.out.2).trans HP1.out.1; clear hSw; go_simp)) (by assumption) ?_
      simp only [Act.put, List.setIfInBounds_toArray, List.set_cons_zero, List.set_cons_succ]
      refine callV 7 rfl (by kernel_rfl) (by rfl) (fun K hK => ?_)
      go_simp
      refine (HPL.out _ hHeld).mono ?_
      rintro e w3 ⟨rfl, rfl⟩
      refine hK.out _ _ hHeld (fun hHeld3 => ?_)
      have HH3 := Lib.hid hHeld
      clear hK K hHeld hHeld3
      try simp only [Act.put, List.setIfInBounds_toArray, List.set_cons_zero, List.set_cons_succ]
      refine takeV 8 (some 10) ((.int .i64 z0)) rfl rfl (by kernel_rfl) (by kernel_rfl) (by kernel_rfl) (fun _ _ _ h => h) (by rfl) (by (intro _w _hSw; (try dsimp only at _hSw); go_simp)) (by assumption) ?_
      simp only [Act.put, List.setIfInBounds_toArray, List.set_cons_zero, List.set_cons_succ]
      refine wpAnyH_done (by kernel_rfl) ?_ _
      have HB3 := Lib.hid (HBW.out.trans (HH3.out.mono HBW.out.size))
      have HB3' := Lib.hid (HBR.out.trans (HH3.out.mono HBR.out.size))
      cases h2 : hasS cx cb with
      | false =>
        rw [plI_not h2] at hz0
        subst hz0
        have HE : Hid (∀ (i : Nat) (c : ByteArray) (u v : Vl), i < j + 1 → ca[i]? = some c → hasS c cb = true → l[i]? = some u → r[plS c cb]? = some v → ordT u v = 0) := fun i c u v hi h1 h4 h5 h6 => by
          by_cases e : i = j
          · subst e
            rw [HCJ.out] at h1
            rw [← Option.some.inj h1, h2] at h4
            cases h4
          · exact HJ.out i c u v (by omega) h1 h4 h5 h6
        clear h2
        go_wp2
        go_roundg g
        case measure => omega
        case rel => exact ⟨j + 1, by go_num, by omega, HE.out, HB3'.out⟩
      | true =>
        obtain ⟨hz, hzlt⟩ := plI_has h2
        rw [hz] at hz0
        obtain ⟨z, hzz⟩ : ∃ z, plS cx cb = z := ⟨_, rfl⟩
        rw [hzz] at hz0 hzlt
        subst hz0
        have hzn : ¬ ((z : Int) < 0) := by omega
        have hzr : z < r.length := by rw [HYL.out]; exact hzlt
        have hzri : (z : Int) < (r.length : Int) := by omega
        obtain ⟨b4, o4, rfl, hb4, q2⟩ := ((HY.out.up HB3.out (Nat.le_refl _)).s).at_ hzr
        have hye : r[z]? = some r[z] := List.getElem?_eq_getElem hzr
        have hyz := HY.out.z _ (List.getElem_mem hzr) |>.1
        obtain ⟨v, hv⟩ : ∃ v, r[z] = v := ⟨_, rfl⟩
        rw [hv] at q2 hye hyz
        have HQ2 := Lib.hid (And.intro q2 hb4)
        have HQ1' := Lib.hid (And.intro (HQ1.out.1.next HH3.out HQ1.out.2) (Nat.lt_of_lt_of_le HQ1.out.2 HH3.out.size))
        have HCC := Lib.hid (fun W => refCompare_any u.1 u.2.1 u.2.2 v.1 v.2.1 v.2.2 W HXZ.out hyz)
        obtain ⟨O, hO⟩ : ∃ O, ordT u v = O := ⟨_, rfl⟩
        have HOO : Hid (ordV u.1 u.2.1 u.2.2 v.1 v.2.1 v.2.2 = O) := hO
        have HE : Hid (O = 0 → ∀ (i : Nat) (c : ByteArray) (u v : Vl), i < j + 1 → ca[i]? = some c → hasS c cb = true → l[i]? = some u → r[plS c cb]? = some v → ordT u v = 0) := fun h0 i c u' v' hi h1 h4 h5 h6 => by
          by_cases e : i = j
          · subst e
            rw [HCJ.out] at h1
            rw [HXE.out] at h5
            rw [← Option.some.inj h1, hzz, hye] at h6
            rw [← Option.some.inj h5, ← Option.some.inj h6, hO, h0]
          · exact HJ.out i c u' v' (by omega) h1 h4 h5 h6
        have HN : Hid (O ≠ 0 → ¬ agP ca cb l r) := fun h0 h => h0 (by rw [← hO]; exact h j cx u v HCJ.out h2 HXE.out (by rw [hzz]; exact hye))
        clear h2 hz hzz hzlt q2 hb4 hye hyz hv hO
        obtain ⟨wd2, hwd2⟩ : ∃ q, World.drew wd = q := ⟨_, rfl⟩
        have HSN2 : Hid (Snc wd wd2) := by show Snc _ _; rw [← hwd2]; exact (Below.refl _ _).drew
        go_wp2_with fail
        refine wp_region_held_drew (S := Snc wd) (by kernel_rfl) (by rw [hwd2]; exact HSN2.out) (fun hHeld => ?_)
        rw [hwd2] at hHeld ⊢
        clear hwd2
        refine takeV 0 (some 29) ((.slice (some ⟨b3, o3, none⟩) l.length c3)) rfl rfl (by kernel_rfl) (by kernel_rfl) (by kernel_rfl) (fun _ _ _ h => h) (by rfl) (by (intro _w _hSw; (try dsimp only at _hSw); go_simp)) (by assumption) ?_
        simp only [Act.put, List.setIfInBounds_toArray, List.set_cons_zero, List.set_cons_succ]
        refine takeV 1 (some 30) ((.int .i64 j)) rfl rfl (by kernel_rfl) (by kernel_rfl) (by kernel_rfl) (fun _ _ _ h => h) (by rfl) (by (intro _w _hSw; (try dsimp only at _hSw); go_simp)) (by assumption) ?_
        simp only [Act.put, List.setIfInBounds_toArray, List.set_cons_zero, List.set_cons_succ]
        refine takeV 2 (some 31) ((.pointer (some ⟨b3, o3 + j * 3, none⟩))) rfl rfl (by kernel_rfl) (by kernel_rfl) (by kernel_rfl) (fun _ _ _ h => h) (by rfl) (by (intro _w _hSw; (try dsimp only at _hSw); go_simp)) (by assumption) ?_
        simp only [Act.put, List.setIfInBounds_toArray, List.set_cons_zero, List.set_cons_succ]
        refine takeV 3 (some 32) ((.agg #[.int .i64 u.1, .int .i64 u.2.1, .string u.2.2])) rfl rfl (by kernel_rfl) (by kernel_rfl) (by kernel_rfl) (fun _ _ _ h => h) (by rfl) (by (intro _w hSw; have kk := HQ1'.out.1.next hSw HQ1'.out.2; have k0 := kk.c0; have k1 := kk.c1; have k2 := kk.c2; clear kk; clear hSw; go_simp)) (by assumption) ?_
        simp only [Act.put, List.setIfInBounds_toArray, List.set_cons_zero, List.set_cons_succ]
        refine takeV 4 (some 33) ((.slice (some ⟨b4, o4, none⟩) r.length c4)) rfl rfl (by kernel_rfl) (by kernel_rfl) (by kernel_rfl) (fun _ _ _ h => h) (by rfl) (by (intro _w _hSw; (try dsimp only at _hSw); go_simp)) (by assumption) ?_
        simp only [Act.put, List.setIfInBounds_toArray, List.set_cons_zero, List.set_cons_succ]
        refine takeV 5 (some 34) ((.int .i64 z)) rfl rfl (by kernel_rfl) (by kernel_rfl) (by kernel_rfl) (fun _ _ _ h => h) (by rfl) (by (intro _w _hSw; (try dsimp only at _hSw); go_simp)) (by assumption) ?_
        simp only [Act.put, List.setIfInBounds_toArray, List.set_cons_zero, List.set_cons_succ]
        refine takeV 6 (some 35) ((.pointer (some ⟨b4, o4 + z * 3, none⟩))) rfl rfl (by kernel_rfl) (by kernel_rfl) (by kernel_rfl) (fun _ _ _ h => h) (by rfl) (by (intro _w _hSw; (try dsimp only at _hSw); go_simp)) (by assumption) ?_
        simp only [Act.put, List.setIfInBounds_toArray, List.set_cons_zero, List.set_cons_succ]
        refine takeV 7 (some 36) ((.agg #[.int .i64 v.1, .int .i64 v.2.1, .string v.2.2])) rfl rfl (by kernel_rfl) (by kernel_rfl) (by kernel_rfl) (fun _ _ _ h => h) (by rfl) (by (intro _w hSw; have kk := HQ2.out.1.next hSw HQ2.out.2; have k0 := kk.c0; have k1 := kk.c1; have k2 := kk.c2; clear kk; clear hSw; go_simp)) (by assumption) ?_
        simp only [Act.put, List.setIfInBounds_toArray, List.set_cons_zero, List.set_cons_succ]
        refine callV 8 rfl (by kernel_rfl) (by rfl) (fun K hK => ?_)
        go_simp
        refine (HCC.out _).mono ?_
        rintro e w4 ⟨rfl, hb4'⟩
        have HB4 := Lib.hid (hHeld.next hb4')
        rw [HOO.out]
        refine hK.out _ _ (hHeld.next hb4') (fun _ => ?_)
        clear hK K hHeld hb4'
        try simp only [Act.put, List.setIfInBounds_toArray, List.set_cons_zero, List.set_cons_succ]
        refine takeV 9 (some 11) ((.int .i64 O)) rfl rfl (by kernel_rfl) (by kernel_rfl) (by kernel_rfl) (fun _ _ _ h => h) (by rfl) (by (intro _w _hSw; (try dsimp only at _hSw); go_simp)) (by assumption) ?_
        simp only [Act.put, List.setIfInBounds_toArray, List.set_cons_zero, List.set_cons_succ]
        refine wpAnyH_done (by kernel_rfl) ?_ _
        have HB5 := Lib.hid (HB3'.out.trans (HB4.out.mono HB3'.out.size))
        have HB6 := Lib.hid (HB3.out.trans (HB4.out.mono HB3.out.size))
        by_cases h0 : O = 0
        · have h0d : (O != 0) = false := by rw [h0]; rfl
          have HE2 := Lib.hid (HE.out h0)
          clear h0
          go_wp2
          go_roundg g
          case measure => omega
          case rel => exact ⟨j + 1, by go_num, by omega, HE2.out, HB5.out⟩
        · have h0d : (O != 0) = true := by simpa using h0
          have HN2 := Lib.hid (HN.out h0)
          clear h0
          go_wp2
          go_ret
          exact ⟨.inr ⟨rfl, HN2.out⟩, HB6.out⟩
end Go.Proofs.Ytofmfainhflmmaa

/-
  CONTRACT: the document's Without.
-/
namespace Go.Proofs.Ytofmfainhflmmaa
open Go.RowKit

open Classical in
/-- does a row agree with none? -/
noncomputable def noAg (ca cb : List ByteArray) (B : List (List Vl)) (x : List Vl) : Bool := decide (∀ y ∈ B, ¬ agP ca cb x y)
open Classical in
theorem noAg_yes {ca cb : List ByteArray} {B : List (List Vl)} {x : List Vl} (h : ¬ ∃ y ∈ B, agP ca cb x y) : noAg ca cb B x = true := by
  unfold noAg; rw [decide_eq_true_eq]; exact fun y hy h2 => h ⟨y, hy, h2⟩
open Classical in
theorem noAg_no {ca cb : List ByteArray} {B : List (List Vl)} {x : List Vl} (h : ∃ y ∈ B, agP ca cb x y) : noAg ca cb B x = false := by
  unfold noAg; rw [decide_eq_false_iff_not]; exact fun h2 => by obtain ⟨y, hy, h3⟩ := h; exact h2 y hy h3
noncomputable def woT (ca cb : List ByteArray) (RA RB : List Rw) : List (List Vl) := (txR RA).filter (noAg ca cb (txR RB))
noncomputable def twoC (ca cb : List ByteArray) (RA RB : List Rw) : Int := if mayRel ca RA = true ∧ mayRel cb RB = true then 0 else 2
/-- three blocks made at first: two relations, and a third for the answer -/
structure Tri (w w0 : World) (u0 u1 v0 v1 : Value) : Prop where
  b : Below w.heap.size w w0
  a0 : w0.cell? ⟨w.heap.size, 0, none⟩ = some u0
  a1 : w0.cell? ⟨w.heap.size, 1, none⟩ = some u1
  d0 : w0.cell? ⟨w.heap.size + 1, 0, none⟩ = some v0
  d1 : w0.cell? ⟨w.heap.size + 1, 1, none⟩ = some v1
  k : w0.heap[w.heap.size + 1 + 1]? = some (.cells #[.slice none 0 0, .slice none 0 0] 43 (0, 0))
  lt : w.heap.size + 1 + 1 < w0.heap.size
theorem tri_new (w : World) (u0 u1 v0 v1 : Value) : Tri w (((w.alloc (.cells #[u0, u1] 43)).alloc (.cells #[v0, v1] 43)).alloc (.cells #[.slice none 0 0, .slice none 0 0] 43)) u0 u1 v0 v1 := by
  obtain ⟨w1, h1⟩ : ∃ w1, w.alloc (.cells #[u0, u1] 43) = w1 := ⟨_, rfl⟩
  have s1 : w1.heap.size = w.heap.size + 1 := by rw [← h1]; simp
  obtain ⟨w2, h2⟩ : ∃ w2, w1.alloc (.cells #[v0, v1] 43) = w2 := ⟨_, rfl⟩
  have s2 : w2.heap.size = w.heap.size + 1 + 1 := by rw [← h2]; simp [s1]
  rw [h1, h2]
  have b1 : Below w.heap.size w w1 := by rw [← h1]; exact (Below.refl _ _).alloc (Nat.le_refl _) _
  have b2 : Below (w.heap.size + 1) w1 w2 := by rw [← h2, ← s1]; exact (Below.refl _ _).alloc (Nat.le_refl _) _
  have b3 : Below (w.heap.size + 1 + 1) w2 (w2.alloc (.cells #[.slice none 0 0, .slice none 0 0] 43)) := by rw [← s2]; exact (Below.refl _ _).alloc (Nat.le_refl _) _
  have a : ∀ i, (w2.alloc (.cells #[.slice none 0 0, .slice none 0 0] 43)).cell? ⟨w.heap.size, i, none⟩ = #[u0, u1][i]? := fun i => by
    rw [b3.cell (p := ⟨w.heap.size, i, none⟩) (by show w.heap.size < _; omega), b2.cell (p := ⟨w.heap.size, i, none⟩) (by show w.heap.size < _; omega), ← h1, World.cell?_alloc_new]
  have d : ∀ i, (w2.alloc (.cells #[.slice none 0 0, .slice none 0 0] 43)).cell? ⟨w.heap.size + 1, i, none⟩ = #[v0, v1][i]? := fun i => by
    rw [b3.cell (p := ⟨w.heap.size + 1, i, none⟩) (by show w.heap.size + 1 < _; omega), ← h2, ← s1, World.cell?_alloc_new]
  exact ⟨b1.trans ((b2.mono (by omega)).trans (b3.mono (by omega))), a 0, a 1, d 0, d 1, by rw [← s2]; exact heap_alloc_new _ _, by simp [s2]⟩
theorem Tri.next {w w0 w1 : World} {u0 u1 v0 v1 : Value} (h : Tri w w0 u0 u1 v0 v1) (hb : Below w0.heap.size w0 w1) : Tri w w1 u0 u1 v0 v1 := by
  have hl := h.lt
  exact ⟨h.b.trans (hb.mono h.b.size), (hb.cell (p := ⟨w.heap.size, 0, none⟩) (by show w.heap.size < _; omega)).trans h.a0, (hb.cell (p := ⟨w.heap.size, 1, none⟩) (by show w.heap.size < _; omega)).trans h.a1, (hb.cell (p := ⟨w.heap.size + 1, 0, none⟩) (by show w.heap.size + 1 < _; omega)).trans h.d0, (hb.cell (p := ⟨w.heap.size + 1, 1, none⟩) (by show w.heap.size + 1 < _; omega)).trans h.d1, (hb.block _ hl).trans h.k, Nat.lt_of_lt_of_le hl hb.size⟩
theorem Tri.c {w w0 : World} {u0 u1 v0 v1 : Value} (h : Tri w w0 u0 u1 v0 v1) : w0.cell? ⟨w.heap.size + 1 + 1, 0, none⟩ = some (.slice none 0 0) ∧ w0.cell? ⟨w.heap.size + 1 + 1, 1, none⟩ = some (.slice none 0 0) := by
  have := h.k
  constructor <;> simp [World.cell?, this]
theorem Tri.f {w w0 : World} {u0 u1 v0 v1 : Value} (h : Tri w w0 u0 u1 v0 v1) : w0.frozen? ⟨w.heap.size + 1 + 1, 0, none⟩ = false ∧ w0.frozen? ⟨w.heap.size + 1 + 1, 1, none⟩ = false := by
  have := h.k
  constructor <;> simp [World.frozen?, this]
set_option maxRecDepth 100000 in
set_option maxHeartbeats 8000000 in
theorem refWithout_any (A : Option Addr) (c : Nat) (ca : List ByteArray) (A1 : Option Addr) (c1 : Nat) (RA : List Rw) (A2 : Option Addr) (c2 : Nat) (cb : List ByteArray) (A3 : Option Addr) (c3 : Nat) (RB : List Rw) (w : World) (hA : SlC w w.heap.size A ca) (hRA : SlR w w.heap.size A1 RA) (hB : SlC w w.heap.size A2 cb) (hRB : SlR w w.heap.size A3 RB)
    (hla : ca.length ≤ 1000000000) (hlb : cb.length ≤ 1000000000) (hra : RA.length ≤ 100000000) (hrb : RB.length ≤ 100000000) :
    Calls Try.prog 28 #[.agg #[.slice A ca.length c, .slice A1 RA.length c1], .agg #[.slice A2 cb.length c2, .slice A3 RB.length c3]] w (RefEnd w A c ca (woT ca cb RA RB) (twoC ca cb RA RB)) := by
  have HA := Lib.hid hA
  have HRA := Lib.hid hRA
  have HB := Lib.hid hB
  have HRB := Lib.hid hRB
  clear hA hRA hB hRB
  obtain ⟨w0, hw0⟩ : ∃ w0, ((w.alloc (.cells #[.slice A ca.length c, .slice A1 RA.length c1] 43)).alloc (.cells #[.slice A2 cb.length c2, .slice A3 RB.length c3] 43)).alloc (.cells #[.slice none 0 0, .slice none 0 0] 43) = w0 := ⟨_, rfl⟩
  have htw : Tri w w0 (.slice A ca.length c) (.slice A1 RA.length c1) (.slice A2 cb.length c2) (.slice A3 RB.length c3) := by rw [← hw0]; exact tri_new _ _ _ _ _
  have HM := Lib.hid (refMay_any A c ca A1 c1 RA w0 (HA.out.up htw.b (Nat.le_refl _)) (HRA.out.up htw.b (Nat.le_refl _)) hla (by omega))
  have HM2 := Lib.hid (fun W (hb : Below w.heap.size w W) => refMay_any A2 c2 cb A3 c3 RB W (HB.out.up hb (Nat.le_refl _)) (HRB.out.up hb (Nat.le_refl _)) hlb (by omega))
  have HT0 := Lib.hid htw
  obtain ⟨ya0, ya1, yd0, yd1, ⟨yc0, yc1⟩, yf0, yf1⟩ : _ ∧ _ ∧ _ ∧ _ ∧ _ ∧ _ := ⟨htw.a0, htw.a1, htw.d0, htw.d1, htw.c, htw.f⟩
  clear htw
  obtain ⟨i0, hi, hz0, hz1, hz2⟩ := info_parts infoR
  have hmx : 2000000000000 ≤ maxLen := by decide
  by_cases q : mayRel ca RA = true ∧ mayRel cb RB = true
  · have HQ := Lib.hid q
    have HE : Hid (twoC ca cb RA RB = 0) := by show _ = _; unfold twoC; rw [if_pos q]
    rw [q.1] at HM
    rw [q.2] at HM2
    clear q
    go_enter Try.func28, Try.ntmps28
    go_wp2_with fail
    refine HM.out.mono ?_
    rintro e w1 ⟨rfl, hb1⟩
    have HT1 := Lib.hid (HT0.out.next hb1)
    obtain ⟨xa0, xa1, xd0, xd1⟩ : _ ∧ _ ∧ _ ∧ _ := ⟨HT1.out.a0, HT1.out.a1, HT1.out.d0, HT1.out.d1⟩
    clear hb1 ya0 ya1 yd0 yd1 yc0 yc1 yf0 yf1 HM hw0
    go_wp2_with fail
    refine (HM2.out w1 HT1.out.b).mono ?_
    rintro e w2 ⟨rfl, hb2⟩
    have HT2 := Lib.hid (HT1.out.next hb2)
    clear hb2 xa0 xa1 xd0 xd1 HM2
    obtain ⟨xa0, xa1, xd0, xd1⟩ : _ ∧ _ ∧ _ ∧ _ := ⟨HT2.out.a0, HT2.out.a1, HT2.out.d0, HT2.out.d1⟩
    go_wp2
    go_loopg [8, 9] RA.length (fun g x8 x9 wr => ∃ (j : Nat) (acc : List Rw), Own1 46 cellR wr w2.heap.size x8 acc ∧ x9 = .int .i64 j ∧ j + g = RA.length ∧ Hid (acc = (RA.take j).filter fun r => noAg ca cb (txR RB) r.l) ∧ Hid (Below w2.heap.size w2 wr))
    case atStart => exact ⟨0, [], own1_nil _ _ _ _, rfl, by omega, rfl, Below.refl _ _⟩
    case round =>
      clear xa0 xa1 xd0 xd1
      obtain ⟨j, acc, ho, rfl, hj, HAC, HBR⟩ := hrel
      obtain ⟨A9, c9, rfl, hsA, hl9, hc9, hn9, _⟩ := ho.form
      have HTW := Lib.hid (HT2.out.next HBR.out)
      have ha1 := HTW.out.a1
      have HLA : Hid (acc.length ≤ j ∧ ∀ r ∈ acc, r ∈ RA) := by
        show _ ∧ _
        rw [HAC.out]
        refine ⟨Nat.le_trans (List.length_filter_le _ _) (by rw [List.length_take]; omega), fun r hr => (List.take_subset _ _) (List.mem_filter.1 hr).1⟩
      cases gk with
      | zero =>
        have hji : ¬ (j : Int) < (RA.length : Int) := by omega
        have HTX : Hid (txR acc = woT ca cb RA RB) := by
          show _ = _
          rw [HAC.out, List.take_of_length_le (by omega)]
          unfold woT txR
          rw [List.filter_map]
          rfl
        have HTP : Hid (putsG ordR (txR acc) = woT ca cb RA RB) := by
          show _ = _
          rw [HTX.out]
          refine putsG_self ?_
          unfold woT Ups
          exact List.Pairwise.filter _ (mayRel_ups HQ.out.1)
        have HMC : Hid (madeC ca.length (txR acc) = 0) := madeC_zero (colsB_len (mayRel_cols HQ.out.1)) (by have := HLA.out.1; have := mayRel_len HQ.out.1; rw [txR_len]; omega)
        have hacl : ∀ r ∈ acc, r.l.length ≤ 1000000000 := fun r hr => by rw [longB_all (mayRel_long HQ.out.1) r (HLA.out.2 r hr)]; exact hla
        have HMD := made_any A c ca A9 c9 acc wr ⟨hsA, fun r hr => (HRA.out.up HTW.out.b (Nat.le_refl _)).r r (HLA.out.2 r hr)⟩ (by have := HLA.out.1; omega) hacl
        rw [HMC.out] at HMD
        have HCL := Lib.hid HMD
        have ha0 := HTW.out.a0
        have HBKW := Lib.hid HTW.out.k
        have HLT : Hid (w.heap.size + 1 + 1 < wr.heap.size) := HTW.out.lt
        obtain ⟨⟨hc0', hc1'⟩, hf0', hf1'⟩ : _ ∧ _ := ⟨HTW.out.c, HTW.out.f⟩
        clear HMD ho hsA hacl
        go_wp2_with fail
        refine HCL.out.mono ?_
        rintro e w3 ⟨hb3, vc, vr, rfl, hcase⟩
        have HCASE := Lib.hid hcase
        have HB3 := Lib.hid hb3
        obtain ⟨⟨a1, n1, k1, e1⟩, a2, n2, k2, e2⟩ := RefEnd.slices hcase
        subst e1 e2
        have z0 := (hb3.cell (p := ⟨w.heap.size + 1 + 1, 0, none⟩) HLT.out).trans hc0'
        have z1 := (hb3.cell (p := ⟨w.heap.size + 1 + 1, 1, none⟩) HLT.out).trans hc1'
        have zf0 := (hb3.frozen (p := ⟨w.heap.size + 1 + 1, 0, none⟩) HLT.out).trans hf0'
        have zf1 := (hb3.frozen (p := ⟨w.heap.size + 1 + 1, 1, none⟩) HLT.out).trans hf1'
        have HC2 := Lib.hid (cells_two (v0 := .slice a1 n1 k1) (v1 := .slice a2 n2 k2) z0 z1)
        clear hcase hb3 hc0' hc1' hf0' hf1' HCL ha1 ha0
        go_wp2
        refine bodyPost_ret (v := .tuple #[.agg #[.slice a1 n1 k1, .slice a2 n2 k2], .int .i64 0]) (by rw [results_ct rfl]; obtain ⟨x0, x1⟩ := HC2.out; clear z0 z1; go_simp) rfl ?_
        rw [HE.out, ← HTP.out]
        exact RefEnd.store HTW.out.b (by omega) HLT.out HB3.out HBKW.out (by rcases HCASE.out with ⟨_, h⟩ | ⟨h, _⟩; exact .inl ⟨rfl, h⟩; exact absurd rfl h)
      | succ g =>
        have hji : (j : Int) < (RA.length : Int) := by omega
        have hjn : j < RA.length := by omega
        obtain ⟨b, o, r, hA1, hb, hr, hp, hok⟩ := (HRA.out.up HTW.out.b (Nat.le_refl _)).at_ hjn
        subst hA1
        have HTK : Hid (RA.take (j + 1) = RA.take j ++ [r]) := by
          show _ = _
          rw [List.take_succ_eq_append_getElem hjn]
          rw [List.getElem?_eq_getElem hjn] at hr
          rw [Option.some.inj hr]
        have hrlen : r.l.length = ca.length := longB_all (mayRel_long HQ.out.1) r (List.mem_of_getElem? hr)
        have HP := Lib.hid (show wr.cell? ⟨b, o + j, none⟩ = some (cellR r) ∧ b < wr.heap.size from ⟨hp, hb⟩)
        have HOK := Lib.hid (And.intro hok hrlen)
        have HO := Lib.hid ho
        obtain ⟨Ar, nr, kr, hcr⟩ : ∃ A n k, cellR r = .slice A n k := ⟨_, _, _, rfl⟩
        rw [hcr] at HP
        have HCR := Lib.hid hcr
        clear hr hok hrlen ho hsA hp hn9 hcr
        go_wp2
        rename World => W1
        go_loopg [10, 11] RB.length (fun g x10 x11 wq => ∃ (k : Nat) (m : Bool), x10 = .bool m ∧ x11 = .int .i64 k ∧ k + g = RB.length ∧ Hid (m = true ↔ ∃ y ∈ RB.take k, agP ca cb r.l y.l) ∧ Hid (Below W1.heap.size W1 wq))
        case atStart => exact ⟨0, false, rfl, rfl, by omega, by show _ ↔ _; simp, Below.refl _ _⟩
        case round =>
          clear ha1
          obtain ⟨k, m, rfl, rfl, hk, HMB, HBQ⟩ := hrel
          have HTQ := Lib.hid (HTW.out.next HBQ.out)
          have ha0 := HTQ.out.a0
          have ha1 := HTQ.out.a1
          have hd0 := HTQ.out.d0
          have hd1 := HTQ.out.d1
          have HPQ1 := Lib.hid (show wr.cell? ⟨b, o + j, none⟩ = _ ∧ b < wr.heap.size from ⟨(HBQ.out.cell (p := ⟨b, o + j, none⟩) HP.out.2).trans HP.out.1, Nat.lt_of_lt_of_le HP.out.2 HBQ.out.size⟩)
          have HBN := Lib.hid (HBR.out.trans (HBQ.out.mono HBR.out.size))
          cases gk with
          | zero =>
            have hki : ¬ (k : Int) < (RB.length : Int) := by omega
            have hcj := HPQ1.out.1
            have HMA : Hid (m = true ↔ ∃ y ∈ txR RB, agP ca cb r.l y) := by
              show _ ↔ _
              rw [HMB.out, List.take_of_length_le (by omega)]
              unfold txR
              exact ⟨fun ⟨y, h1, h2⟩ => ⟨y.l, List.mem_map.2 ⟨y, h1, rfl⟩, h2⟩, fun ⟨z, h1, h2⟩ => by obtain ⟨y, h3, rfl⟩ := List.mem_map.1 h1; exact ⟨y, h3, h2⟩⟩
            cases m with
            | true =>
              have HAC2 : Hid (acc = (RA.take (j + 1)).filter fun r => noAg ca cb (txR RB) r.l) := by
                show _ = _
                rw [HTK.out, List.filter_append, ← HAC.out, List.filter_cons, if_neg (by rw [noAg_no (HMA.out.1 rfl)]; decide)]
                simp
              have HO2 := Lib.hid (HO.out.next HBQ.out)
              go_wp2
              go_roundg g
              case measure => omega
              case rel => exact ⟨j + 1, acc, HO2.out, by go_num, by omega, HAC2.out, HBN.out⟩
            | false =>
              have HAC2 : Hid (acc ++ [r] = (RA.take (j + 1)).filter fun r => noAg ca cb (txR RB) r.l) := by
                show _ = _
                rw [HTK.out, List.filter_append, ← HAC.out, List.filter_cons, if_pos (noAg_yes fun h => by have := HMA.out.2 h; cases this)]
                rfl
              have HOA := Lib.hid ((HO.out.next HBQ.out).next ((Below.refl _ _).alloc (Nat.le_refl _) (.cells #[cellR r] 46)))
              have HLC := Lib.hid (lit1 cellR 46 wr r)
              have HBA := Lib.hid (HBN.out.alloc HBN.out.size (.cells #[cellR r] 46))
              rw [HCR.out] at HOA HLC HBA
              have hacl := HLA.out.1
              have HOX := Lib.hid HOA.out
              unfold Own1 at HOX
              have HONE : Hid (∀ u ∈ [r].map cellR, u.oneCell' = true) := fun u hu => by obtain ⟨x, _, rfl⟩ := List.mem_map.1 hu; rfl
              go_wp2_with (at_builtin; refine wpList_append_any rfl _ _ 32 rfl w2.heap.size 46 i0 (.slice none 0 0) 1 24 Try.underlying32 hi hz0 hz1 hz2 rfl (by decide) _ _ _ rfl HOX.out (some ⟨wr.heap.size, 0, none⟩) 1 1 ([r].map cellR) rfl rfl (fun h => by cases h) HLC.out HONE.out (by omega) (by omega) HBA.out.size ?_; intro v1 w3 hown hgrow; have HV1 : Hid (Own1 46 cellR w3 w2.heap.size v1 (acc ++ [r])) := own1_of hown; have HB3 := Lib.hid (HBA.out.trans (below_owns HOX.out hgrow HBA.out.size)); clear hown hgrow)
              go_roundg g
              case measure => omega
              case rel => exact ⟨j + 1, acc ++ [r], HV1.out, by go_num, by omega, HAC2.out, HB3.out⟩
          | succ g2 =>
            have hki : (k : Int) < (RB.length : Int) := by omega
            have hkn : k < RB.length := by omega
            obtain ⟨b2, o2, y, hA3, hb2, hy, hp2, hok2⟩ := (HRB.out.up HTQ.out.b (Nat.le_refl _)).at_ hkn
            subst hA3
            have HTK2 : Hid (RB.take (k + 1) = RB.take k ++ [y]) := by
              show _ = _
              rw [List.take_succ_eq_append_getElem hkn]
              rw [List.getElem?_eq_getElem hkn] at hy
              rw [Option.some.inj hy]
            have hylen : y.l.length = cb.length := longB_all (mayRel_long HQ.out.2) y (List.mem_of_getElem? hy)
            have HPQ2 := Lib.hid (show wr.cell? ⟨b2, o2 + k, none⟩ = some (cellR y) ∧ b2 < wr.heap.size from ⟨hp2, hb2⟩)
            have HAG := Lib.hid (fun X (hX : Snc wr X) => refAgree_any A (some ⟨b, o, none⟩) A2 (some ⟨b2, o2, none⟩) c c1 c2 c3 RA.length RB.length ca cb r y X (HA.out.up (HTQ.out.b.trans (hX.mono HTQ.out.b.size)) (Nat.le_refl _)) (HB.out.up (HTQ.out.b.trans (hX.mono HTQ.out.b.size)) (Nat.le_refl _)) ((HOK.out.1.up HBQ.out (Nat.le_refl _)).up hX (Nat.le_refl _)) (hok2.up hX (Nat.le_refl _)) hla hlb HOK.out.2 hylen)
            rw [HCR.out] at HAG
            obtain ⟨cy, hcy⟩ : ∃ v, cellR y = v := ⟨_, rfl⟩
            rw [hcy] at HAG HPQ2
            clear hy hp2 hb2 hok2 hylen hcy
            obtain ⟨wd, hwd⟩ : ∃ wd, wr.drew = wd := ⟨_, rfl⟩
            have HSN : Hid (Snc wr wd) := by show Snc _ _; rw [← hwd]; exact (Below.refl _ _).drew
            have HLT : Hid (w.heap.size + 1 + 1 < wr.heap.size) := HTQ.out.lt
            have HLT1 : Hid (w.heap.size + 1 < wr.heap.size) := by show _ < _; have := HLT.out; omega
            have HLT0 : Hid (w.heap.size < wr.heap.size) := by show _ < _; have := HLT.out; omega
            go_wp2_with fail
            refine wp_region_held_drew (S := Snc wr) (by kernel_rfl) (by rw [hwd]; exact HSN.out) (fun hHeld => ?_)
            rw [hwd] at hHeld ⊢
            clear hwd ha0 ha1 hd0 hd1
            refine takeV 0 (some 38) ((.agg #[.slice A ca.length c, .slice (some ⟨b, o, none⟩) RA.length c1])) rfl rfl (by kernel_rfl) (by kernel_rfl) (by kernel_rfl) (fun _ _ _ h => h) (by rfl) (by (intro _w hSw; have k0 := (Below.cell (p := ⟨w.heap.size, 0, none⟩) hSw HLT0.out).trans HTQ.out.a0; have k1 := (Below.cell (p := ⟨w.heap.size, 1, none⟩) hSw HLT0.out).trans HTQ.out.a1; clear hSw; go_simp)) (by assumption) ?_
            simp only [Act.put, List.setIfInBounds_toArray, List.set_cons_zero, List.set_cons_succ]
            refine takeV 1 (some 39) ((.agg #[.slice A2 cb.length c2, .slice (some ⟨b2, o2, none⟩) RB.length c3])) rfl rfl (by kernel_rfl) (by kernel_rfl) (by kernel_rfl) (fun _ _ _ h => h) (by rfl) (by (intro _w hSw; have k0 := (Below.cell (p := ⟨w.heap.size + 1, 0, none⟩) hSw HLT1.out).trans HTQ.out.d0; have k1 := (Below.cell (p := ⟨w.heap.size + 1, 1, none⟩) hSw HLT1.out).trans HTQ.out.d1; clear hSw; go_simp)) (by assumption) ?_
            simp only [Act.put, List.setIfInBounds_toArray, List.set_cons_zero, List.set_cons_succ]
            refine takeV 2 (some 40) ((.pointer (some ⟨w.heap.size, 1, none⟩))) rfl rfl (by kernel_rfl) (by kernel_rfl) (by kernel_rfl) (fun _ _ _ h => h) (by rfl) (by (intro _w _hSw; (try dsimp only at _hSw); go_simp)) (by assumption) ?_
            simp only [Act.put, List.setIfInBounds_toArray, List.set_cons_zero, List.set_cons_succ]
            refine takeV 3 (some 41) ((.slice (some ⟨b, o, none⟩) RA.length c1)) rfl rfl (by kernel_rfl) (by kernel_rfl) (by kernel_rfl) (fun _ _ _ h => h) (by rfl) (by (intro _w hSw; have k1 := (Below.cell (p := ⟨w.heap.size, 1, none⟩) hSw HLT0.out).trans HTQ.out.a1; clear hSw; go_simp)) (by assumption) ?_
            simp only [Act.put, List.setIfInBounds_toArray, List.set_cons_zero, List.set_cons_succ]
            refine takeV 4 (some 42) ((.int .i64 j)) rfl rfl (by kernel_rfl) (by kernel_rfl) (by kernel_rfl) (fun _ _ _ h => h) (by rfl) (by (intro _w _hSw; (try dsimp only at _hSw); go_simp)) (by assumption) ?_
            simp only [Act.put, List.setIfInBounds_toArray, List.set_cons_zero, List.set_cons_succ]
            refine takeV 5 (some 43) ((.pointer (some ⟨b, o + j, none⟩))) rfl rfl (by kernel_rfl) (by kernel_rfl) (by kernel_rfl) (fun _ _ _ h => h) (by rfl) (by (intro _w _hSw; (try dsimp only at _hSw); go_simp)) (by assumption) ?_
            simp only [Act.put, List.setIfInBounds_toArray, List.set_cons_zero, List.set_cons_succ]
            refine takeV 6 (some 44) ((.slice Ar nr kr)) rfl rfl (by kernel_rfl) (by kernel_rfl) (by kernel_rfl) (fun _ _ _ h => h) (by rfl) (by (intro _w hSw; have k0 := (Below.cell (p := ⟨b, o + j, none⟩) hSw HPQ1.out.2).trans HPQ1.out.1; clear hSw; go_simp)) (by assumption) ?_
            simp only [Act.put, List.setIfInBounds_toArray, List.set_cons_zero, List.set_cons_succ]
            refine takeV 7 (some 45) ((.pointer (some ⟨w.heap.size + 1, 1, none⟩))) rfl rfl (by kernel_rfl) (by kernel_rfl) (by kernel_rfl) (fun _ _ _ h => h) (by rfl) (by (intro _w _hSw; (try dsimp only at _hSw); go_simp)) (by assumption) ?_
            simp only [Act.put, List.setIfInBounds_toArray, List.set_cons_zero, List.set_cons_succ]
            refine takeV 8 (some 46) ((.slice (some ⟨b2, o2, none⟩) RB.length c3)) rfl rfl (by kernel_rfl) (by kernel_rfl) (by kernel_rfl) (fun _ _ _ h => h) (by rfl) (by (intro _w hSw; have k1 := (Below.cell (p := ⟨w.heap.size + 1, 1, none⟩) hSw HLT1.out).trans HTQ.out.d1; clear hSw; go_simp)) (by assumption) ?_
            simp only [Act.put, List.setIfInBounds_toArray, List.set_cons_zero, List.set_cons_succ]
            refine takeV 9 (some 47) ((.int .i64 k)) rfl rfl (by kernel_rfl) (by kernel_rfl) (by kernel_rfl) (fun _ _ _ h => h) (by rfl) (by (intro _w _hSw; (try dsimp only at _hSw); go_simp)) (by assumption) ?_
            simp only [Act.put, List.setIfInBounds_toArray, List.set_cons_zero, List.set_cons_succ]
            refine takeV 10 (some 48) ((.pointer (some ⟨b2, o2 + k, none⟩))) rfl rfl (by kernel_rfl) (by kernel_rfl) (by kernel_rfl) (fun _ _ _ h => h) (by rfl) (by (intro _w _hSw; (try dsimp only at _hSw); go_simp)) (by assumption) ?_
            simp only [Act.put, List.setIfInBounds_toArray, List.set_cons_zero, List.set_cons_succ]
            refine takeV 11 (some 49) ((cy)) rfl rfl (by kernel_rfl) (by kernel_rfl) (by kernel_rfl) (fun _ _ _ h => h) (by rfl) (by (intro _w hSw; have k0 := (Below.cell (p := ⟨b2, o2 + k, none⟩) hSw HPQ2.out.2).trans HPQ2.out.1; clear hSw; go_simp)) (by assumption) ?_
            simp only [Act.put, List.setIfInBounds_toArray, List.set_cons_zero, List.set_cons_succ]
            refine callV 12 rfl (by kernel_rfl) (by rfl) (fun K hK => ?_)
            go_simp
            refine (HAG.out _ hHeld).mono ?_
            rintro e w4 ⟨hcs, hb4⟩
            obtain ⟨d, rfl, hd⟩ : ∃ d, e = .returned (.bool d) ∧ (d = true ↔ agP ca cb r.l y.l) := by
              rcases hcs with ⟨h1, h2⟩ | ⟨h1, h2⟩
              · exact ⟨true, h1, fun _ => h2, fun _ => rfl⟩
              · exact ⟨false, h1, (fun h => by cases h), fun h => absurd h h2⟩
            have HD : Hid (d = true ↔ agP ca cb r.l y.l) := hd
            have HB4 := Lib.hid (hHeld.next hb4)
            refine hK.out _ _ (hHeld.next hb4) (fun _ => ?_)
            clear hK K hHeld hb4 hcs hd
            try simp only [Act.put, List.setIfInBounds_toArray, List.set_cons_zero, List.set_cons_succ]
            refine takeV 13 (some 12) ((.bool d)) rfl rfl (by kernel_rfl) (by kernel_rfl) (by kernel_rfl) (fun _ _ _ h => h) (by rfl) (by (intro _w _hSw; (try dsimp only at _hSw); go_simp)) (by assumption) ?_
            simp only [Act.put, List.setIfInBounds_toArray, List.set_cons_zero, List.set_cons_succ]
            refine wpAnyH_done (by kernel_rfl) ?_ _
            have HB5 := Lib.hid (HBQ.out.trans (HB4.out.mono HBQ.out.size))
            have HMD : Hid ((m || d) = true ↔ ∃ y ∈ RB.take (k + 1), agP ca cb r.l y.l) := by
              show _ ↔ _
              rw [HTK2.out, Bool.or_eq_true, HMB.out, HD.out]
              simp only [List.mem_append, List.mem_singleton]
              constructor
              · rintro (⟨y', h1, h2⟩ | h)
                · exact ⟨y', .inl h1, h2⟩
                · exact ⟨y, .inr rfl, h⟩
              · rintro ⟨y', h1 | rfl, h2⟩
                · exact .inl ⟨y', h1, h2⟩
                · exact .inr h2
            cases m with
            | true =>
              go_wp2
              go_roundg g2
              case measure => omega
              case rel => exact ⟨k + 1, true, rfl, by go_num, by omega, HMD.out, HB5.out⟩
            | false =>
              rw [Bool.false_or] at HMD
              go_wp2
              go_roundg g2
              case measure => omega
              case rel => exact ⟨k + 1, d, rfl, by go_num, by omega, HMD.out, HB5.out⟩
  · have HE : Hid (twoC ca cb RA RB = 2) := by show _ = _; unfold twoC; rw [if_neg q]
    generalize mayRel ca RA = b1 at HM q
    generalize mayRel cb RB = b2 at HM2 q
    cases b1 <;> cases b2
    all_goals try exact absurd ⟨rfl, rfl⟩ q
    all_goals
      clear q
      go_enter Try.func28, Try.ntmps28
      go_wp2_with fail
      refine HM.out.mono ?_
      rintro e w1 ⟨rfl, hb1⟩
      have HT1 := Lib.hid (HT0.out.next hb1)
      obtain ⟨xa0, xa1, xd0, xd1⟩ : _ ∧ _ ∧ _ ∧ _ := ⟨HT1.out.a0, HT1.out.a1, HT1.out.d0, HT1.out.d1⟩
      clear hb1 ya0 ya1 yd0 yd1 yc0 yc1 yf0 yf1 HM hw0
      go_wp2_with fail
      refine (HM2.out w1 HT1.out.b).mono ?_
      rintro e w2 ⟨rfl, hb2⟩
      have HT2 := Lib.hid (HT1.out.next hb2)
      clear hb2 xa0 xa1 xd0 xd1 HM2
      obtain ⟨⟨xc0, xc1⟩, xf0, xf1⟩ : _ ∧ _ := ⟨HT2.out.c, HT2.out.f⟩
      have HC2 := Lib.hid (cells_two (v0 := .slice none 0 0) (v1 := .slice none 0 0) xc0 xc1)
      go_wp2
      refine bodyPost_ret (v := .tuple #[.agg #[.slice none 0 0, .slice none 0 0], .int .i64 2]) (by rw [results_ct rfl]; obtain ⟨x0, x1⟩ := HC2.out; clear xc0 xc1; go_simp) rfl ?_
      rw [HE.out]
      exact RefEnd.store HT2.out.b (by omega) HT2.out.lt (Below.refl _ _) HT2.out.k (.inr ⟨by decide, rfl, rfl⟩)
end Go.Proofs.Ytofmfainhflmmaa

/-
  CONTRACT: the document's Or.
-/
namespace Go.Proofs.Ytofmfainhflmmaa
open Go.RowKit

/-- rows of which some lie below, and some are the call's own -/
structure OwnX (W : World) (B : Nat) (v : Value) (R : List Rw) : Prop where
  o : Own1 46 cellR W B v R
  i : ∀ x ∈ R, RwOk W B x ∨ (OwnV W B (cellR x) x.l ∧ zOk x.l)
theorem OwnX.next {W W' : World} {B : Nat} {v : Value} {R : List Rw} (h : OwnX W B v R) (hB : B ≤ W.heap.size) (hb : Below W.heap.size W W') : OwnX W' B v R :=
  ⟨h.o.next hb, fun x hx => by
    rcases h.i x hx with a | ⟨a, z⟩
    · exact .inl (a.next hb hB)
    · exact .inr ⟨owns_next a hb, z⟩⟩
theorem OwnX.snoc {W W3 : World} {B m : Nat} {v v' : Value} {R : List Rw} {r : Rw} (h : OwnX W B v R) (hB : B ≤ W.heap.size) (hr : OwnV W B (cellR r) r.l) (hz : zOk r.l) (hown : W3.ownsRow B 46 1 v' m (R.map cellR ++ [r].map cellR)) (hg : W.grownBy W3 v.ownBlock) : OwnX W3 B v' (R ++ [r]) := by
  have ho := h.o
  have hb : Below B W W3 := below_owns ho hg hB
  refine ⟨own1_of hown, fun x hx => ?_⟩
  rcases List.mem_append.1 hx with e | e
  · rcases h.i x e with a | ⟨a, z⟩
    · exact .inl (a.next hb (Nat.le_refl _))
    · exact .inr ⟨owns_other a ho (by decide) hg, z⟩
  · rw [List.mem_singleton] at e
    subst e
    exact .inr ⟨owns_other hr ho (by decide) hg, hz⟩
theorem OwnX.ok {W : World} {B : Nat} {v : Value} {R : List Rw} (h : OwnX W B v R) (hB : B ≤ W.heap.size) : ∀ x ∈ R, RwOk W W.heap.size x := fun x hx => by
  rcases h.i x hx with a | ⟨a, z⟩
  · exact a.more hB
  · exact a.rwOk z
def orL (ca cb : List ByteArray) (RA RB : List Rw) : List (List Vl) := txR RA ++ (txR RB).map (pickV (plN ca cb))
noncomputable def orC (ca cb : List ByteArray) (RA RB : List Rw) : Int := if mayRel ca RA = true ∧ mayRel cb RB = true ∧ inB ca cb = true ∧ ca.length = cb.length then madeC ca.length (orL ca cb RA RB) else 2
set_option maxRecDepth 100000 in
set_option maxHeartbeats 8000000 in
theorem refOr_any (A : Option Addr) (c : Nat) (ca : List ByteArray) (A1 : Option Addr) (c1 : Nat) (RA : List Rw) (A2 : Option Addr) (c2 : Nat) (cb : List ByteArray) (A3 : Option Addr) (c3 : Nat) (RB : List Rw) (w : World) (hA : SlC w w.heap.size A ca) (hRA : SlR w w.heap.size A1 RA) (hB : SlC w w.heap.size A2 cb) (hRB : SlR w w.heap.size A3 RB)
    (hla : ca.length ≤ 1000000000) (hlb : cb.length ≤ 1000000000) (hra : RA.length ≤ 10000000) (hrb : RB.length ≤ 10000000) (hn1 : A1 = none → RA.length = 0 ∧ c1 = 0) :
    Calls Try.prog 26 #[.agg #[.slice A ca.length c, .slice A1 RA.length c1], .agg #[.slice A2 cb.length c2, .slice A3 RB.length c3]] w (RefEnd w A c ca (putsG ordR (orL ca cb RA RB)) (orC ca cb RA RB)) := by
  have HN1 := Lib.hid hn1
  have HA := Lib.hid hA
  have HRA := Lib.hid hRA
  have HB := Lib.hid hB
  have HRB := Lib.hid hRB
  clear hA hRA hB hRB hn1
  obtain ⟨w0, hw0⟩ : ∃ w0, ((w.alloc (.cells #[.slice A ca.length c, .slice A1 RA.length c1] 43)).alloc (.cells #[.slice A2 cb.length c2, .slice A3 RB.length c3] 43)).alloc (.cells #[.slice none 0 0, .slice none 0 0] 43) = w0 := ⟨_, rfl⟩
  have htw : Tri w w0 (.slice A ca.length c) (.slice A1 RA.length c1) (.slice A2 cb.length c2) (.slice A3 RB.length c3) := by rw [← hw0]; exact tri_new _ _ _ _ _
  have HM := Lib.hid (refMay_any A c ca A1 c1 RA w0 (HA.out.up htw.b (Nat.le_refl _)) (HRA.out.up htw.b (Nat.le_refl _)) hla (by omega))
  have HM2 := Lib.hid (fun W (hb : Below w.heap.size w W) => refMay_any A2 c2 cb A3 c3 RB W (HB.out.up hb (Nat.le_refl _)) (HRB.out.up hb (Nat.le_refl _)) hlb (by omega))
  have HWI := Lib.hid (fun W (hb : Below w.heap.size w W) => within_any A c ca A2 c2 cb W W.heap.size (Sl1.up HA.out hb (Nat.le_refl _)) (Sl1.up HB.out hb (Nat.le_refl _)) hla hlb)
  have HT0 := Lib.hid htw
  obtain ⟨ya0, ya1, yd0, yd1, ⟨yc0, yc1⟩, yf0, yf1⟩ : _ ∧ _ ∧ _ ∧ _ ∧ _ ∧ _ := ⟨htw.a0, htw.a1, htw.d0, htw.d1, htw.c, htw.f⟩
  clear htw
  obtain ⟨i0, hi, hz0, hz1, hz2⟩ := info_parts infoR
  have hmx : 2000000000000 ≤ maxLen := by decide
  by_cases q : mayRel ca RA = true ∧ mayRel cb RB = true ∧ inB ca cb = true ∧ ca.length = cb.length
  · have HQ := Lib.hid q
    have HE : Hid (orC ca cb RA RB = madeC ca.length (orL ca cb RA RB)) := by show _ = _; unfold orC; rw [if_pos q]
    have hle : ((ca.length : Int) != (cb.length : Int)) = false := by rw [q.2.2.2]; simp
    rw [q.1] at HM
    rw [q.2.1] at HM2
    rw [q.2.2.1] at HWI
    clear q
    go_enter Try.func26, Try.ntmps26
    go_wp2_with fail
    refine HM.out.mono ?_
    rintro e w1 ⟨rfl, hb1⟩
    have HT1 := Lib.hid (HT0.out.next hb1)
    obtain ⟨xa0, xa1, xd0, xd1⟩ : _ ∧ _ ∧ _ ∧ _ := ⟨HT1.out.a0, HT1.out.a1, HT1.out.d0, HT1.out.d1⟩
    clear hb1 ya0 ya1 yd0 yd1 yc0 yc1 yf0 yf1 HM hw0
    go_wp2_with fail
    refine (HM2.out w1 HT1.out.b).mono ?_
    rintro e w2 ⟨rfl, hb2⟩
    have HT2 := Lib.hid (HT1.out.next hb2)
    clear hb2 xa0 xa1 xd0 xd1 HM2
    obtain ⟨xa0, xa1, xd0, xd1⟩ : _ ∧ _ ∧ _ ∧ _ := ⟨HT2.out.a0, HT2.out.a1, HT2.out.d0, HT2.out.d1⟩
    go_wp2_with fail
    refine (HWI.out w2 HT2.out.b).mono ?_
    rintro e w3 ⟨rfl, rfl⟩
    have HL0 : Hid (Own1 46 cellR w2 w2.heap.size (.slice none 0 0) []) := own1_nil _ _ _ _
    have HX0 := Lib.hid HL0.out
    unfold Own1 at HX0
    have HRA2 := Lib.hid (HRA.out.next HT2.out.b (Nat.le_refl _))
    have HNW : Hid (∀ ad', A1 = some ad' → ∀ j u, (RA.map cellR)[j]? = some u → w2.cell? (ad'.add j) = some u) := fun ad' h j u hu => HRA2.out.s.news ad' h j u hu
    have HNE : Hid (∀ u ∈ RA.map cellR, u.oneCell' = true) := fun u hu => by obtain ⟨x, _, rfl⟩ := List.mem_map.1 hu; rfl
    have HLE : Hid ((RA.map cellR).length = RA.length * 1) := by show _ = _; rw [List.length_map, Nat.mul_one]
    clear HWI
    go_wp2_with (at_builtin; refine wpList_append_any rfl _ _ 32 rfl w2.heap.size 46 i0 (.slice none 0 0) 1 24 Try.underlying32 hi hz0 hz1 hz2 rfl (by decide) _ _ _ rfl HX0.out A1 RA.length c1 (RA.map cellR) rfl HLE.out HN1.out HNW.out HNE.out (by simp; omega) (by simp; omega) (Nat.le_refl _) ?_; intro v4 w4 hown hgrow; have HV4 : Hid (Own1 46 cellR w4 w2.heap.size v4 RA) := own1_of (a := []) hown; have HB4 := Lib.hid (below_owns HX0.out hgrow (Nat.le_refl _)); clear hown hgrow)
    have HX4 : Hid (OwnX w4 w2.heap.size v4 RA) := ⟨HV4.out, fun x hx => .inl (((HRA2.out.r x hx).more HT2.out.b.size).next HB4.out (Nat.le_refl _))⟩
    have HT4 := Lib.hid (HT2.out.next HB4.out)
    have HSZ : Hid (w2.heap.size ≤ w4.heap.size) := HB4.out.size
    clear xa0 xa1 xd0 xd1 HL0 HX0 HNW HNE HLE HV4
    obtain ⟨xa0, xa1, xd0, xd1⟩ : _ ∧ _ ∧ _ ∧ _ := ⟨HT4.out.a0, HT4.out.a1, HT4.out.d0, HT4.out.d1⟩
    go_loopg [9, 10] RB.length (fun g x9 x10 wr => ∃ (j : Nat) (acc : List Rw), OwnX wr w2.heap.size x9 acc ∧ x10 = .int .i64 j ∧ j + g = RB.length ∧ Hid (acc.length = RA.length + j) ∧ Hid (txR acc = txR RA ++ ((txR RB).take j).map (pickV (plN ca cb))) ∧ Hid (Below w2.heap.size w2 wr))
    case atStart => exact ⟨0, RA, HX4.out, rfl, by omega, rfl, by show _ = _; simp, HB4.out⟩
    case round =>
      clear xa0 xa1 xd0 xd1
      obtain ⟨j, acc, hox, rfl, hj, HAL, HT, HBR⟩ := hrel
      have ho := hox.o
      obtain ⟨A9, c9, rfl, hsA, hl9, hc9, hn9, _⟩ := ho.form
      have HTW := Lib.hid (HT2.out.next HBR.out)
      have HE0 := HE
      have hd1 := HTW.out.d1
      have hd0 := HTW.out.d0
      have ha0 := HTW.out.a0
      have ha1 := True.intro
      cases gk with
      | zero =>
        have hji : ¬ (j : Int) < (RB.length : Int) := by omega
        have HTX : Hid (txR acc = orL ca cb RA RB) := by
          show _ = _
          rw [HT.out, List.take_of_length_le (by rw [txR_len]; omega)]
          rfl
        have HOK := Lib.hid (hox.ok HBR.out.size)
        have hacl : ∀ r ∈ acc, r.l.length ≤ 1000000000 := fun r hr => by
          have hm : r.l ∈ txR acc := List.mem_map.2 ⟨r, hr, rfl⟩
          rw [HTX.out] at hm
          unfold orL at hm
          rcases List.mem_append.1 hm with h | h
          · obtain ⟨y, hy, e⟩ := List.mem_map.1 h
            rw [← e, longB_all (mayRel_long HQ.out.1) y hy]; exact hla
          · obtain ⟨y, _, e⟩ := List.mem_map.1 h
            rw [← e, pickV_len]
            unfold plN
            rw [List.length_map]; exact hla
        have HMD := made_any A c ca A9 c9 acc wr ⟨hsA, HOK.out⟩ (by have := HAL.out; omega) hacl
        rw [HTX.out] at HMD
        obtain ⟨code, hcode⟩ : ∃ z, madeC ca.length (orL ca cb RA RB) = z := ⟨_, rfl⟩
        rw [hcode] at HMD HE
        have HCL := Lib.hid HMD
        have ha0 := HTW.out.a0
        have HBKW := Lib.hid HTW.out.k
        have HLT : Hid (w.heap.size + 1 + 1 < wr.heap.size) := HTW.out.lt
        obtain ⟨⟨hc0', hc1'⟩, hf0', hf1'⟩ : _ ∧ _ := ⟨HTW.out.c, HTW.out.f⟩
        clear HMD ho hox hsA hacl hcode HE0
        go_wp2_with fail
        refine HCL.out.mono ?_
        rintro e w3 ⟨hb3, vc, vr, rfl, hcase⟩
        have HCASE := Lib.hid hcase
        have HB3 := Lib.hid hb3
        obtain ⟨⟨a1, n1, k1, e1⟩, a2, n2, k2, e2⟩ := RefEnd.slices hcase
        subst e1 e2
        have z0 := (hb3.cell (p := ⟨w.heap.size + 1 + 1, 0, none⟩) HLT.out).trans hc0'
        have z1 := (hb3.cell (p := ⟨w.heap.size + 1 + 1, 1, none⟩) HLT.out).trans hc1'
        have zf0 := (hb3.frozen (p := ⟨w.heap.size + 1 + 1, 0, none⟩) HLT.out).trans hf0'
        have zf1 := (hb3.frozen (p := ⟨w.heap.size + 1 + 1, 1, none⟩) HLT.out).trans hf1'
        have HC2 := Lib.hid (cells_two (v0 := .slice a1 n1 k1) (v1 := .slice a2 n2 k2) z0 z1)
        clear hcase hb3 hc0' hc1' hf0' hf1' HCL ha1 ha0
        go_wp2
        refine bodyPost_ret (v := .tuple #[.agg #[.slice a1 n1 k1, .slice a2 n2 k2], .int .i64 code]) (by rw [results_ct rfl]; obtain ⟨x0, x1⟩ := HC2.out; clear z0 z1; go_simp) rfl ?_
        rw [HE.out]
        exact RefEnd.store HTW.out.b (by omega) HLT.out HB3.out HBKW.out HCASE.out
      | succ g =>
        have hji : (j : Int) < (RB.length : Int) := by omega
        have hjn : j < RB.length := by omega
        obtain ⟨b, o, r, hA1, hb, hr, hp, hok⟩ := (HRB.out.up HTW.out.b (Nat.le_refl _)).at_ hjn
        subst hA1
        have HTK : Hid ((txR RB).take (j + 1) = (txR RB).take j ++ [r.l]) := by
          show _ = _
          rw [List.take_add_one]
          unfold txR
          rw [List.getElem?_map, hr]
          rfl
        have hrlen : r.l.length = cb.length := longB_all (mayRel_long HQ.out.2.1) r (List.mem_of_getElem? hr)
        have HCA := Lib.hid (fun W (hb : Below wr.heap.size wr W) => refPick_any r A c ca A2 c2 cb W (hok.up hb (Nat.le_refl _)) (Sl1.up HA.out (HTW.out.b.trans (hb.mono HTW.out.b.size)) (Nat.le_refl _)) (Sl1.up HB.out (HTW.out.b.trans (hb.mono HTW.out.b.size)) (Nat.le_refl _)) hla hlb HQ.out.2.2.1 hrlen)
        have HZQ0 : Hid (zOk (pickV (plN ca cb) r.l)) := zOk_pick hok.z (fun i hi => by rw [hrlen]; exact plN_lt HQ.out.2.2.1 i hi)
        have HP := Lib.hid (show wr.cell? ⟨b, o + j, none⟩ = some (cellR r) ∧ b < wr.heap.size from ⟨hp, hb⟩)
        have HOX := Lib.hid hox
        have hal : acc.length ≤ 20000000 := by have := HAL.out; omega
        obtain ⟨Ar, nr, kr, hcr⟩ : ∃ A n k, cellR r = .slice A n k := ⟨_, _, _, rfl⟩
        rw [hcr] at HP HCA
        obtain ⟨P, hP⟩ : ∃ P, pickV (plN ca cb) r.l = P := ⟨_, rfl⟩
        have HPP := Lib.hid hP
        rw [hP] at HCA HZQ0
        have HLT : Hid (w.heap.size + 1 < wr.heap.size) := by show _ < _; have := HTW.out.lt; omega
        have HLT0 : Hid (w.heap.size < wr.heap.size) := by show _ < _; have := HLT.out; omega
        clear hr hok hrlen ho hox hsA hP hn9 hp hcr HE0
        go_wp2_with fail
        obtain ⟨wd, hwd⟩ : ∃ wd, wr.drew = wd := ⟨_, rfl⟩
        have HSN : Hid (Snc wr wd) := by show Snc _ _; rw [← hwd]; exact (Below.refl _ _).drew
        refine wp_region_held_drew (S := Snc wr) (by kernel_rfl) (by rw [hwd]; exact HSN.out) (fun hHeld => ?_)
        rw [hwd] at hHeld ⊢
        clear hwd ha1 hd1 hd0 ha0
        refine takeV 0 (some 52) ((.pointer (some ⟨w.heap.size + 1, 1, none⟩))) rfl rfl (by kernel_rfl) (by kernel_rfl) (by kernel_rfl) (fun _ _ _ h => h) (by rfl) (by (intro _w _hSw; (try dsimp only at _hSw); go_simp)) (by assumption) ?_
        simp only [Act.put, List.setIfInBounds_toArray, List.set_cons_zero, List.set_cons_succ]
        refine takeV 1 (some 53) ((.slice (some ⟨b, o, none⟩) RB.length c3)) rfl rfl (by kernel_rfl) (by kernel_rfl) (by kernel_rfl) (fun _ _ _ h => h) (by rfl) (by (intro _w hSw; have k0 := (Below.cell (p := ⟨w.heap.size + 1, 1, none⟩) hSw HLT.out).trans HTW.out.d1; clear hSw; go_simp)) (by assumption) ?_
        simp only [Act.put, List.setIfInBounds_toArray, List.set_cons_zero, List.set_cons_succ]
        refine takeV 2 (some 54) ((.int .i64 j)) rfl rfl (by kernel_rfl) (by kernel_rfl) (by kernel_rfl) (fun _ _ _ h => h) (by rfl) (by (intro _w _hSw; (try dsimp only at _hSw); go_simp)) (by assumption) ?_
        simp only [Act.put, List.setIfInBounds_toArray, List.set_cons_zero, List.set_cons_succ]
        refine takeV 3 (some 55) ((.pointer (some ⟨b, o + j, none⟩))) rfl rfl (by kernel_rfl) (by kernel_rfl) (by kernel_rfl) (fun _ _ _ h => h) (by rfl) (by (intro _w _hSw; (try dsimp only at _hSw); go_simp)) (by assumption) ?_
        simp only [Act.put, List.setIfInBounds_toArray, List.set_cons_zero, List.set_cons_succ]
        refine takeV 4 (some 56) ((.slice Ar nr kr)) rfl rfl (by kernel_rfl) (by kernel_rfl) (by kernel_rfl) (fun _ _ _ h => h) (by rfl) (by (intro _w hSw; have k0 := (Below.cell (p := ⟨b, o + j, none⟩) hSw HP.out.2).trans HP.out.1; clear hSw; go_simp)) (by assumption) ?_
        simp only [Act.put, List.setIfInBounds_toArray, List.set_cons_zero, List.set_cons_succ]
        refine takeV 5 (some 57) ((.pointer (some ⟨w.heap.size, 0, none⟩))) rfl rfl (by kernel_rfl) (by kernel_rfl) (by kernel_rfl) (fun _ _ _ h => h) (by rfl) (by (intro _w _hSw; (try dsimp only at _hSw); go_simp)) (by assumption) ?_
        simp only [Act.put, List.setIfInBounds_toArray, List.set_cons_zero, List.set_cons_succ]
        refine takeV 6 (some 58) ((.slice A ca.length c)) rfl rfl (by kernel_rfl) (by kernel_rfl) (by kernel_rfl) (fun _ _ _ h => h) (by rfl) (by (intro _w hSw; have k0 := (Below.cell (p := ⟨w.heap.size, 0, none⟩) hSw HLT0.out).trans HTW.out.a0; clear hSw; go_simp)) (by assumption) ?_
        simp only [Act.put, List.setIfInBounds_toArray, List.set_cons_zero, List.set_cons_succ]
        refine takeV 7 (some 59) ((.pointer (some ⟨w.heap.size + 1, 0, none⟩))) rfl rfl (by kernel_rfl) (by kernel_rfl) (by kernel_rfl) (fun _ _ _ h => h) (by rfl) (by (intro _w _hSw; (try dsimp only at _hSw); go_simp)) (by assumption) ?_
        simp only [Act.put, List.setIfInBounds_toArray, List.set_cons_zero, List.set_cons_succ]
        refine takeV 8 (some 60) ((.slice A2 cb.length c2)) rfl rfl (by kernel_rfl) (by kernel_rfl) (by kernel_rfl) (fun _ _ _ h => h) (by rfl) (by (intro _w hSw; have k0 := (Below.cell (p := ⟨w.heap.size + 1, 0, none⟩) hSw HLT.out).trans HTW.out.d0; clear hSw; go_simp)) (by assumption) ?_
        simp only [Act.put, List.setIfInBounds_toArray, List.set_cons_zero, List.set_cons_succ]
        refine callV 9 rfl (by kernel_rfl) (by rfl) (fun K hK => ?_)
        go_simp
        refine (HCA.out _ hHeld).mono ?_
        rintro e w5 ⟨⟨v2, rfl, hv2⟩, hb2⟩
        have hb2x : Below wr.heap.size wr w5 := hHeld.next hb2
        have hv2x : OwnV w5 wr.heap.size v2 P := hv2.low (Below.size hHeld)
        refine hK.out _ _ (hHeld.next hb2) (fun _ => ?_)
        clear hK K hHeld hb2 hv2
        try simp only [Act.put, List.setIfInBounds_toArray, List.set_cons_zero, List.set_cons_succ]
        obtain ⟨A7, c7, rfl, _, _, _, _⟩ := hv2x.form
        refine takeV 10 (some 11) ((.slice A7 P.length c7)) rfl rfl (by kernel_rfl) (by kernel_rfl) (by kernel_rfl) (fun _ _ _ h => h) (by rfl) (by (intro _w _hSw; (try dsimp only at _hSw); go_simp)) (by assumption) ?_
        simp only [Act.put, List.setIfInBounds_toArray, List.set_cons_zero, List.set_cons_succ]
        refine wpAnyH_done (by kernel_rfl) ?_ _
        have HB2 : Hid (Below w2.heap.size w2 w5) := HBR.out.trans (hb2x.mono HBR.out.size)
        obtain ⟨q, hq⟩ : ∃ q : Rw, q = ⟨A7, c7, P⟩ := ⟨_, rfl⟩
        have hq1 : Value.slice A7 P.length c7 = cellR q := by rw [hq]; rfl
        have HQL : Hid (q.l = P) := by rw [hq]; rfl
        rw [hq1] at hv2x
        have HV2 : Hid (OwnV w5 w2.heap.size (cellR q) q.l) := by
          show OwnV _ _ _ _
          rw [HQL.out]; exact hv2x.low HBR.out.size
        have HZQ : Hid (zOk q.l) := by show zOk _; rw [HQL.out]; exact HZQ0.out
        have HO2 := Lib.hid (HOX.out.next HBR.out.size hb2x)
        have HOA := Lib.hid (HO2.out.next HB2.out.size ((Below.refl _ _).alloc (Nat.le_refl _) (.cells #[cellR q] 46)))
        have HVA := Lib.hid (HV2.out.next ((Below.refl _ _).alloc (Nat.le_refl _) (.cells #[cellR q] 46)))
        have HLC := Lib.hid (lit1 cellR 46 w5 q)
        have HBA := Lib.hid (HB2.out.alloc HB2.out.size (.cells #[cellR q] 46))
        obtain ⟨n2, hn2x⟩ : ∃ n2, P.length = n2 := ⟨_, rfl⟩
        have hcv : cellR q = .slice A7 n2 c7 := by rw [hq, ← hn2x]; rfl
        have HCV := Lib.hid hcv
        rw [hn2x]
        rw [hcv] at HVA HLC HBA HOA
        clear hq hq1 hv2x hb2x hcv HO2 HV2 hn2x
        have HOY := Lib.hid HOA.out.o
        unfold Own1 at HOY
        have HONE : Hid (∀ u ∈ [q].map cellR, u.oneCell' = true) := fun u hu => by obtain ⟨x, _, rfl⟩ := List.mem_map.1 hu; rfl
        go_wp2_with (at_builtin; refine wpList_append_any rfl _ _ 32 rfl w2.heap.size 46 i0 (.slice none 0 0) 1 24 Try.underlying32 hi hz0 hz1 hz2 rfl (by decide) _ _ _ rfl HOY.out (some ⟨w5.heap.size, 0, none⟩) 1 1 ([q].map cellR) rfl rfl (fun h => by cases h) HLC.out HONE.out (by omega) (by omega) HBA.out.size ?_; intro v1 w6 hown hgrow; have HV1 : Hid (OwnX w6 w2.heap.size v1 (acc ++ [q])) := HOA.out.snoc HBA.out.size (by rw [HCV.out]; exact HVA.out) HZQ.out hown hgrow; have HB3 := Lib.hid (HBA.out.trans (below_owns HOY.out hgrow HBA.out.size)); clear hown hgrow)
        have HAL2 : Hid ((acc ++ [q]).length = RA.length + (j + 1)) := by show _ = _; rw [List.length_append, HAL.out]; simp; omega
        have HT2' : Hid (txR (acc ++ [q]) = txR RA ++ ((txR RB).take (j + 1)).map (pickV (plN ca cb))) := by
          show _ = _
          rw [HTK.out, List.map_append, ← List.append_assoc, ← HT.out, List.map_cons, HPP.out, ← HQL.out]
          unfold txR
          rw [List.map_append]
          rfl
        clear hal
        go_roundg g
        case measure => omega
        case rel => exact ⟨j + 1, acc ++ [q], HV1.out, by go_num, by omega, HAL2.out, HT2'.out, HB3.out⟩
  · have HE : Hid (orC ca cb RA RB = 2) := by show _ = _; unfold orC; rw [if_neg q]
    generalize mayRel ca RA = b1 at HM q
    generalize mayRel cb RB = b2 at HM2 q
    generalize inB ca cb = b3 at HWI q
    obtain ⟨b4, hb4⟩ : ∃ b4, ((ca.length : Int) != (cb.length : Int)) = b4 := ⟨_, rfl⟩
    have q4 : b4 = false → ca.length = cb.length := fun e => by
      rw [e] at hb4
      have : (ca.length : Int) = (cb.length : Int) := by simpa using hb4
      omega
    cases b1 <;> cases b2 <;> cases b3 <;> cases b4
    all_goals try exact absurd ⟨rfl, rfl, rfl, q4 rfl⟩ q
    all_goals
      clear q q4
      go_enter Try.func26, Try.ntmps26
      go_wp2_with fail
      refine HM.out.mono ?_
      rintro e w1 ⟨rfl, hb1⟩
      have HT1 := Lib.hid (HT0.out.next hb1)
      obtain ⟨xa0, xa1, xd0, xd1⟩ : _ ∧ _ ∧ _ ∧ _ := ⟨HT1.out.a0, HT1.out.a1, HT1.out.d0, HT1.out.d1⟩
      clear hb1 ya0 ya1 yd0 yd1 yc0 yc1 yf0 yf1 HM hw0
      go_wp2_with fail
      refine (HM2.out w1 HT1.out.b).mono ?_
      rintro e w2 ⟨rfl, hb2⟩
      have HT2 := Lib.hid (HT1.out.next hb2)
      clear hb2 xa0 xa1 xd0 xd1 HM2
      obtain ⟨xa0, xa1, xd0, xd1⟩ : _ ∧ _ ∧ _ ∧ _ := ⟨HT2.out.a0, HT2.out.a1, HT2.out.d0, HT2.out.d1⟩
      go_wp2_with fail
      refine (HWI.out w2 HT2.out.b).mono ?_
      rintro e w3 ⟨rfl, rfl⟩
      obtain ⟨⟨xc0, xc1⟩, xf0, xf1⟩ : _ ∧ _ := ⟨HT2.out.c, HT2.out.f⟩
      have HC2 := Lib.hid (cells_two (v0 := .slice none 0 0) (v1 := .slice none 0 0) xc0 xc1)
      go_wp2
      refine bodyPost_ret (v := .tuple #[.agg #[.slice none 0 0, .slice none 0 0], .int .i64 2]) (by rw [results_ct rfl]; obtain ⟨x0, x1⟩ := HC2.out; clear xc0 xc1; go_simp) rfl ?_
      rw [HE.out]
      exact RefEnd.store HT2.out.b (by omega) HT2.out.lt (Below.refl _ _) HT2.out.k (.inr ⟨by decide, rfl, rfl⟩)
end Go.Proofs.Ytofmfainhflmmaa

/-
  PLAIN FACTS: the columns that the second relation has alone; the joined rows, as the document puts them together.
-/
namespace Go.Proofs.Ytofmfainhflmmaa
open Go.RowKit

/-- the names of the second one that the first one has not -/
def restC (ca cb : List ByteArray) : List ByteArray := cb.filter fun c => !hasS c ca
def colsJ (ca cb : List ByteArray) : List ByteArray := ca ++ restC ca cb
theorem restC_take {ca cb : List ByteArray} {j : Nat} (hj : j < cb.length) : restC ca (cb.take (j + 1)) = if hasS cb[j] ca = true then restC ca (cb.take j) else restC ca (cb.take j) ++ [cb[j]] := by
  unfold restC
  rw [List.take_succ_eq_append_getElem hj, List.filter_append, List.filter_cons]
  cases hasS cb[j] ca <;> simp
theorem restC_le (ca cb : List ByteArray) : (restC ca cb).length ≤ cb.length := List.length_filter_le _ _
theorem inB_rest (ca cb : List ByteArray) : inB (restC ca cb) cb = true := by
  unfold inB
  rw [List.all_eq_true]
  intro c hc
  exact hasS_iff.2 (List.mem_filter.1 hc).1
theorem plN_rest {ca cb : List ByteArray} (hn : cb.Nodup) : plN (restC ca cb) cb = shN false ca cb := by
  unfold plN restC shN
  conv => lhs; rw [← List.zipIdx_map_fst 0 cb]
  rw [List.filter_map, List.map_map, List.zipIdx_map_fst]
  have e : (List.filter ((fun c => !hasS c ca) ∘ Prod.fst) cb.zipIdx) = cb.zipIdx.filter fun x => hasS x.1 ca == false := by
    refine List.filter_congr fun x _ => ?_
    simp [Function.comp]
  rw [e]
  refine List.map_congr_left fun x hx => ?_
  obtain ⟨c, k⟩ := x
  have hm := (List.mem_filter.1 hx).1
  have h1 : cb[k]? = some c := List.mk_mem_zipIdx_iff_getElem?.1 hm
  exact plS_nodup hn h1
open Classical in
noncomputable def agB (ca cb : List ByteArray) (x y : List Vl) : Bool := decide (agP ca cb x y)
open Classical in
theorem agB_iff {ca cb : List ByteArray} {x y : List Vl} : agB ca cb x y = true ↔ agP ca cb x y := by unfold agB; rw [decide_eq_true_eq]
/-- the rows that come of one row -/
noncomputable def joinX (ca cb : List ByteArray) (T : List (List Vl)) (x : List Vl) : List (List Vl) := (T.filter fun y => agB ca cb x y).map fun y => x ++ pickV (plN (restC ca cb) cb) y
/-- all of them, as the document puts them together -/
noncomputable def joinD (ca cb : List ByteArray) (S T : List (List Vl)) : List (List Vl) := S.flatMap fun x => joinX ca cb T x
noncomputable def joinC (ca cb : List ByteArray) (RA RB : List Rw) : Int := if mayRel ca RA = true ∧ mayRel cb RB = true then madeC (colsJ ca cb).length (joinD ca cb (txR RA) (txR RB)) else 2
theorem joinX_snoc {ca cb : List ByteArray} {T : List (List Vl)} {x y : List Vl} : joinX ca cb (T ++ [y]) x = if agB ca cb x y = true then joinX ca cb T x ++ [x ++ pickV (plN (restC ca cb) cb) y] else joinX ca cb T x := by
  unfold joinX
  rw [List.filter_append, List.filter_cons]
  split <;> simp
theorem joinX_nil {ca cb : List ByteArray} {x : List Vl} : joinX ca cb [] x = [] := rfl
theorem joinD_snoc {ca cb : List ByteArray} {S T : List (List Vl)} {x : List Vl} : joinD ca cb (S ++ [x]) T = joinD ca cb S T ++ joinX ca cb T x := by
  unfold joinD
  rw [List.flatMap_append]
  simp
theorem joinX_len {ca cb : List ByteArray} {T : List (List Vl)} {x : List Vl} : (joinX ca cb T x).length ≤ T.length := by
  unfold joinX
  rw [List.length_map]
  exact List.length_filter_le _ _
theorem joinD_len {ca cb : List ByteArray} {T : List (List Vl)} : ∀ {S : List (List Vl)}, (joinD ca cb S T).length ≤ S.length * T.length
  | [] => by simp [joinD]
  | x :: S => by
    have ih := joinD_len (ca := ca) (cb := cb) (T := T) (S := S)
    have e : joinD ca cb (x :: S) T = joinX ca cb T x ++ joinD ca cb S T := by unfold joinD; rw [List.flatMap_cons]
    rw [e, List.length_append, List.length_cons, Nat.succ_mul]
    have := joinX_len (ca := ca) (cb := cb) (T := T) (x := x)
    omega
theorem joinD_mem {ca cb : List ByteArray} {S T : List (List Vl)} (z : List Vl) : z ∈ joinD ca cb S T ↔ ∃ x ∈ S, ∃ y ∈ T, agP ca cb x y ∧ z = x ++ pickV (plN (restC ca cb) cb) y := by
  unfold joinD joinX
  rw [List.mem_flatMap]
  constructor
  · rintro ⟨x, h1, h2⟩
    obtain ⟨y, h3, rfl⟩ := List.mem_map.1 h2
    obtain ⟨h4, h5⟩ := List.mem_filter.1 h3
    exact ⟨x, h1, y, h4, agB_iff.1 h5, rfl⟩
  · rintro ⟨x, h1, y, h2, h3, rfl⟩
    exact ⟨x, h1, List.mem_map.2 ⟨y, List.mem_filter.2 ⟨h2, agB_iff.2 h3⟩, rfl⟩⟩
end Go.Proofs.Ytofmfainhflmmaa
