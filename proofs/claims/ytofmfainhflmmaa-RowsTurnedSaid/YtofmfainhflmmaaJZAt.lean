import Derived.Test.YtofmfainhflmmaaJZArgs
import Derived.Deep.LoopGhost
import Derived.Test.YtofmfainhflmmaaJZCmp
import Derived.Test.YtofmfainhflmmaaJZIdx
/-
  A WORD: what has come since.
-/
namespace Go.Proofs.Ytofmfainhflmmaa
open Go.RowKit

/-- all that has come since -/
def Snc (wr : World) (W : World) : Prop := Below wr.heap.size wr W
theorem Snc.next {wr W W' : World} (h : Snc wr W) (hb : Below W.heap.size W W') : Snc wr W' := Below.trans h (hb.mono (Below.size h))
end Go.Proofs.Ytofmfainhflmmaa

/-
  CONTRACT: rows.compareAt.
-/
namespace Go.Proofs.Ytofmfainhflmmaa
open Go.RowKit
open VOrd (ordT)

def natV (n : Nat) : Value := .int .i64 (n : Int)
instance : Inhabited Vl := ⟨(0, 0, ⟨#[]⟩)⟩
/-- a row's values at some places -/
def pickV (at_ : List Nat) (l : List Vl) : List Vl := at_.map fun i => l[i]!
theorem pickV_at {I : List Nat} {l : List Vl} {j i : Nat} {x : Vl} (h1 : I[j]? = some i) (h2 : l[i]? = some x) : (pickV I l)[j]? = some x := by
  unfold pickV
  rw [List.getElem?_map, h1]
  show some l[i]! = some x
  rw [List.getElem!_eq_getElem?_getD, h2]; rfl
theorem pickV_len (I : List Nat) (l : List Vl) : (pickV I l).length = I.length := List.length_map ..
theorem ordT_drop {a b : List Vl} {j : Nat} {x y : Vl} (h1 : a[j]? = some x) (h2 : b[j]? = some y) : ordR (a.drop j) (b.drop j) = if ordT x y = 0 then ordR (a.drop (j + 1)) (b.drop (j + 1)) else ordT x y := ord_at h1 h2

set_option maxRecDepth 100000 in
set_option maxHeartbeats 2000000 in
theorem compareAt_any (x y : Rw) (A A' : Option Addr) (c c' : Nat) (I J : List Nat) (w : World) (hx : RwOk w w.heap.size x) (hy : RwOk w w.heap.size y) (hI : Sl1 natV w w.heap.size A I) (hJ : Sl1 natV w w.heap.size A' J)
    (hlen : I.length = J.length) (hi : ∀ i ∈ I, i < x.l.length) (hj : ∀ i ∈ J, i < y.l.length) (hl : I.length ≤ 1000000000) :
    Calls Try.prog 92 #[cellR x, .slice A I.length c, cellR y, .slice A' J.length c'] w fun e w' => e = .returned (.int .i64 (ordR (pickV I x.l) (pickV J y.l))) ∧ Below w.heap.size w w' := by
  have hxm := Nat.le_trans hx.c hx.m
  have hym := Nat.le_trans hy.c hy.m
  have hmx : maxLen ≤ 9223372036854775807 := by decide
  have HX := Lib.hid hx
  have HY := Lib.hid hy
  have HI := Lib.hid hI
  have HJ := Lib.hid hJ
  have HII := Lib.hid hi
  have HJJ := Lib.hid hj
  have HLN := Lib.hid hlen
  clear hx hy hI hJ hi hj hlen
  obtain ⟨A1, c1, l⟩ := x
  obtain ⟨A2, c2, r⟩ := y
  unfold cellR
  simp only at hxm hym HII HJJ ⊢
  go_enter Try.func92, Try.ntmps92
  go_wp2
  go_loopg [13] I.length (fun g i wr => ∃ j : Nat, j + g = I.length ∧ i = .int .i64 j ∧ Hid (ordR ((pickV I l).drop j) ((pickV J r).drop j) = ordR (pickV I l) (pickV J r)) ∧ Hid (Below w.heap.size w wr))
  case atStart => exact ⟨0, by omega, rfl, rfl, Below.refl _ _⟩
  case round =>
    obtain ⟨j, hjl, rfl, HT, HB⟩ := hrel
    by_cases h1 : j < I.length
    · have h1i : (j : Int) < (I.length : Int) := by omega
      have h2 : j < J.length := by have := HLN.out; omega
      obtain ⟨b1, o1, rfl, hb1, p1⟩ := (HI.out.up HB.out (Nat.le_refl _)).at_ h1
      obtain ⟨b2, o2, rfl, hb2, p2⟩ := (HJ.out.up HB.out (Nat.le_refl _)).at_ h2
      have hm1 := HII.out _ (List.getElem_mem h1)
      have hm2 := HJJ.out _ (List.getElem_mem h2)
      have he1 : I[j]? = some I[j] := List.getElem?_eq_getElem h1
      have he2 : J[j]? = some J[j] := List.getElem?_eq_getElem h2
      obtain ⟨i1, hi1⟩ : ∃ i, I[j] = i := ⟨_, rfl⟩
      obtain ⟨i2, hi2⟩ : ∃ i, J[j] = i := ⟨_, rfl⟩
      rw [hi1] at p1 hm1 he1
      rw [hi2] at p2 hm2 he2
      obtain ⟨b3, o3, rfl, hb3, q1⟩ := ((HX.out.up HB.out (Nat.le_refl _)).s).at_ hm1
      obtain ⟨b4, o4, rfl, hb4, q2⟩ := ((HY.out.up HB.out (Nat.le_refl _)).s).at_ hm2
      have hxe : l[i1]? = some l[i1] := List.getElem?_eq_getElem hm1
      have hye : r[i2]? = some r[i2] := List.getElem?_eq_getElem hm2
      obtain ⟨u, hu⟩ : ∃ u, l[i1] = u := ⟨_, rfl⟩
      obtain ⟨v, hv⟩ : ∃ v, r[i2] = v := ⟨_, rfl⟩
      rw [hu] at q1 hxe
      rw [hv] at q2 hye
      have HO := Lib.hid (ord_at (pickV_at he1 hxe) (pickV_at he2 hye))
      obtain ⟨O, hO⟩ : ∃ O, ordT u v = O := ⟨_, rfl⟩
      rw [hO] at HO
      have HOO : Hid (ordV u.1 u.2.1 u.2.2 v.1 v.2.1 v.2.2 = O) := hO
      have HCC := Lib.hid (fun W => compare_any u.1 u.2.1 u.2.2 v.1 v.2.1 v.2.2 W)
      unfold natV at p1 p2
      have HP := Lib.hid (show (wr.cell? ⟨b1, o1 + j, none⟩ = _ ∧ b1 < wr.heap.size) ∧ (wr.cell? ⟨b2, o2 + j, none⟩ = _ ∧ b2 < wr.heap.size) ∧ (VlAt wr b3 (o3 + i1 * 3) u ∧ b3 < wr.heap.size) ∧ (VlAt wr b4 (o4 + i2 * 3) v ∧ b4 < wr.heap.size) from ⟨⟨p1, hb1⟩, ⟨p2, hb2⟩, ⟨q1, hb3⟩, ⟨q2, hb4⟩⟩)
      clear p1 p2 q1 q2 he1 he2 hxe hye hi1 hi2 hu hv hO
      go_wp2_with fail
      obtain ⟨wd, hwd⟩ : ∃ wd, wr.drew = wd := ⟨_, rfl⟩
      have HSN : Hid (Snc wr wd) := by show Snc _ _; rw [← hwd]; exact (Below.refl _ _).drew
      refine wp_region_held_drew (S := Snc wr) (by kernel_rfl) (by rw [hwd]; exact HSN.out) (fun hHeld => ?_)
      rw [hwd] at hHeld ⊢
      clear hwd
      refine takeV 0 (some 16) ((.slice (some ⟨b3, o3, none⟩) l.length c1)) rfl rfl (by kernel_rfl) (by kernel_rfl) (by kernel_rfl) (fun _ _ _ h => h) (by rfl) (by (intro _w _hSw; (try dsimp only at _hSw); go_simp)) (by assumption) ?_
      simp only [Act.put, List.setIfInBounds_toArray, List.set_cons_zero, List.set_cons_succ]
      refine takeV 1 (some 17) ((.slice (some ⟨b1, o1, none⟩) I.length c)) rfl rfl (by kernel_rfl) (by kernel_rfl) (by kernel_rfl) (fun _ _ _ h => h) (by rfl) (by (intro _w _hSw; (try dsimp only at _hSw); go_simp)) (by assumption) ?_
      simp only [Act.put, List.setIfInBounds_toArray, List.set_cons_zero, List.set_cons_succ]
      refine takeV 2 (some 18) ((.int .i64 j)) rfl rfl (by kernel_rfl) (by kernel_rfl) (by kernel_rfl) (fun _ _ _ h => h) (by rfl) (by (intro _w _hSw; (try dsimp only at _hSw); go_simp)) (by assumption) ?_
      simp only [Act.put, List.setIfInBounds_toArray, List.set_cons_zero, List.set_cons_succ]
      refine takeV 3 (some 19) ((.pointer (some ⟨b1, o1 + j, none⟩))) rfl rfl (by kernel_rfl) (by kernel_rfl) (by kernel_rfl) (fun _ _ _ h => h) (by rfl) (by (intro _w _hSw; (try dsimp only at _hSw); go_simp)) (by assumption) ?_
      simp only [Act.put, List.setIfInBounds_toArray, List.set_cons_zero, List.set_cons_succ]
      refine takeV 4 (some 20) ((.int .i64 (i1 : Int))) rfl rfl (by kernel_rfl) (by kernel_rfl) (by kernel_rfl) (fun _ _ _ h => h) (by rfl) (by (intro _w hSw; have k0 := (Below.cell (p := ⟨b1, o1 + j, none⟩) hSw HP.out.1.2).trans HP.out.1.1; clear hSw; go_simp)) (by assumption) ?_
      simp only [Act.put, List.setIfInBounds_toArray, List.set_cons_zero, List.set_cons_succ]
      refine takeV 5 (some 21) ((.pointer (some ⟨b3, o3 + i1 * 3, none⟩))) rfl rfl (by kernel_rfl) (by kernel_rfl) (by kernel_rfl) (fun _ _ _ h => h) (by rfl) (by (intro _w _hSw; (try dsimp only at _hSw); go_simp)) (by assumption) ?_
      simp only [Act.put, List.setIfInBounds_toArray, List.set_cons_zero, List.set_cons_succ]
      refine takeV 6 (some 22) ((.agg #[.int .i64 u.1, .int .i64 u.2.1, .string u.2.2])) rfl rfl (by kernel_rfl) (by kernel_rfl) (by kernel_rfl) (fun _ _ _ h => h) (by rfl) (by (intro _w hSw; have kk := HP.out.2.2.1.1.next hSw HP.out.2.2.1.2; have k0 := kk.c0; have k1 := kk.c1; have k2 := kk.c2; clear kk; clear hSw; go_simp)) (by assumption) ?_
      simp only [Act.put, List.setIfInBounds_toArray, List.set_cons_zero, List.set_cons_succ]
      refine takeV 7 (some 23) ((.slice (some ⟨b4, o4, none⟩) r.length c2)) rfl rfl (by kernel_rfl) (by kernel_rfl) (by kernel_rfl) (fun _ _ _ h => h) (by rfl) (by (intro _w _hSw; (try dsimp only at _hSw); go_simp)) (by assumption) ?_
      simp only [Act.put, List.setIfInBounds_toArray, List.set_cons_zero, List.set_cons_succ]
      refine takeV 8 (some 24) ((.slice (some ⟨b2, o2, none⟩) J.length c')) rfl rfl (by kernel_rfl) (by kernel_rfl) (by kernel_rfl) (fun _ _ _ h => h) (by rfl) (by (intro _w _hSw; (try dsimp only at _hSw); go_simp)) (by assumption) ?_
      simp only [Act.put, List.setIfInBounds_toArray, List.set_cons_zero, List.set_cons_succ]
      refine takeV 9 (some 25) ((.int .i64 j)) rfl rfl (by kernel_rfl) (by kernel_rfl) (by kernel_rfl) (fun _ _ _ h => h) (by rfl) (by (intro _w _hSw; (try dsimp only at _hSw); go_simp)) (by assumption) ?_
      simp only [Act.put, List.setIfInBounds_toArray, List.set_cons_zero, List.set_cons_succ]
      refine takeV 10 (some 26) ((.pointer (some ⟨b2, o2 + j, none⟩))) rfl rfl (by kernel_rfl) (by kernel_rfl) (by kernel_rfl) (fun _ _ _ h => h) (by rfl) (by (intro _w _hSw; (try dsimp only at _hSw); go_simp)) (by assumption) ?_
      simp only [Act.put, List.setIfInBounds_toArray, List.set_cons_zero, List.set_cons_succ]
      refine takeV 11 (some 27) ((.int .i64 (i2 : Int))) rfl rfl (by kernel_rfl) (by kernel_rfl) (by kernel_rfl) (fun _ _ _ h => h) (by rfl) (by (intro _w hSw; have k0 := (Below.cell (p := ⟨b2, o2 + j, none⟩) hSw HP.out.2.1.2).trans HP.out.2.1.1; clear hSw; go_simp)) (by assumption) ?_
      simp only [Act.put, List.setIfInBounds_toArray, List.set_cons_zero, List.set_cons_succ]
      refine takeV 12 (some 28) ((.pointer (some ⟨b4, o4 + i2 * 3, none⟩))) rfl rfl (by kernel_rfl) (by kernel_rfl) (by kernel_rfl) (fun _ _ _ h => h) (by rfl) (by (intro _w _hSw; (try dsimp only at _hSw); go_simp)) (by assumption) ?_
      simp only [Act.put, List.setIfInBounds_toArray, List.set_cons_zero, List.set_cons_succ]
      refine takeV 13 (some 29) ((.agg #[.int .i64 v.1, .int .i64 v.2.1, .string v.2.2])) rfl rfl (by kernel_rfl) (by kernel_rfl) (by kernel_rfl) (fun _ _ _ h => h) (by rfl) (by (intro _w hSw; have kk := HP.out.2.2.2.1.next hSw HP.out.2.2.2.2; have k0 := kk.c0; have k1 := kk.c1; have k2 := kk.c2; clear kk; clear hSw; go_simp)) (by assumption) ?_
      simp only [Act.put, List.setIfInBounds_toArray, List.set_cons_zero, List.set_cons_succ]
      refine callV 14 rfl (by kernel_rfl) (by rfl) (fun K hK => ?_)
      go_simp
      refine (HCC.out _).mono ?_
      rintro e w3 ⟨rfl, hb3'⟩
      have HB3 := Lib.hid (hHeld.next hb3')
      rw [HOO.out]
      refine hK.out _ _ (hHeld.next hb3') (fun _ => ?_)
      clear hK K hHeld hb3'
      try simp only [Act.put, List.setIfInBounds_toArray, List.set_cons_zero, List.set_cons_succ]
      refine takeV 15 (some 10) ((.int .i64 O)) rfl rfl (by kernel_rfl) (by kernel_rfl) (by kernel_rfl) (fun _ _ _ h => h) (by rfl) (by (intro _w _hSw; (try dsimp only at _hSw); go_simp)) (by assumption) ?_
      simp only [Act.put, List.setIfInBounds_toArray, List.set_cons_zero, List.set_cons_succ]
      refine wpAnyH_done (by kernel_rfl) ?_ _
      have HBN : Hid (Below w.heap.size w w3) := HB.out.trans (Below.mono HB3.out HB.out.size)
      by_cases h0 : O = 0
      · have h0d : (O != 0) = false := by rw [h0]; rfl
        rw [if_pos h0] at HO
        clear h0
        go_wp2
        go_roundg (gk - 1)
        case measure => omega
        case rel => exact ⟨j + 1, by omega, by go_num, HO.out.symm.trans HT.out, HBN.out⟩
      · have h0d : (O != 0) = true := by simpa using h0
        rw [if_neg h0] at HO
        clear h0
        go_wp2
        go_ret
        exact ⟨ret_i64 (by rw [← HT.out, HO.out]), HBN.out⟩
    · have h1i : ¬ (j : Int) < (I.length : Int) := by omega
      have HE : Hid (ordR (pickV I l) (pickV J r) = 0) := by
        show _ = _
        have hln := HLN.out
        rw [← HT.out, List.drop_of_length_le (by rw [pickV_len]; omega), List.drop_of_length_le (by rw [pickV_len]; omega)]
        rfl
      go_wp2
      go_ret
      exact ⟨ret_i64 (by rw [HE.out]), HB.out⟩
end Go.Proofs.Ytofmfainhflmmaa
