/-
  THE LAW OrderReads: its walk.
-/
import Derived.Test.YtdlkblnnnmgijaaOSame
import Derived.Test.YtdlkblnnnmgijaaORefRd
namespace Go.Proofs.Ytdlkblnnnmgijaa
open Go.RowKit Go.Shelf

def readN (ks : List Bool) (b : List UInt8) : Int := if (readL ks b).isSome then 0 else 20
theorem readEnd_form {W w' : World} {ks : List Bool} {b : List UInt8} {e : Ending} (h : ReadEnd W ks b e w') : ∃ (A : Option Addr) (c : Nat), e = .returned (.tuple #[.slice A ((readL ks b).getD []).length c, .int .i64 (readN ks b)]) ∧ SlP w' w'.heap.size A ((readL ks b).getD []) ∧ Below W.heap.size W w' := by
  obtain ⟨⟨ps, v, h, rfl, ho⟩ | ⟨h, rfl⟩, hb⟩ := h
  · obtain ⟨A, c, rfl, hs⟩ := ho.slp
    unfold readN
    rw [h]
    exact ⟨A, c, rfl, hs, hb⟩
  · unfold readN
    rw [h]
    exact ⟨none, 0, rfl, fun h => absurd rfl h, hb⟩
theorem readL_len {ks : List Bool} {b : List UInt8} : ((readL ks b).getD []).length ≤ ks.length := by
  unfold readL
  split
  · have := tellL_len ks b
    simpa using this
  · simp

theorem SlK.more {W : World} {B B' : Nat} {A : Option Addr} {l : List Bool} (h : SlK W B A l) (hB : B ≤ B') : SlK W B' A l := fun hl => by
  obtain ⟨a, e, hlt, hc⟩ := h hl
  exact ⟨a, e, by omega, hc⟩
theorem ownB_cap {W : World} {B : Nat} {A : Option Addr} {n c : Nat} {l : List UInt8} (h : OwnB W B (.slice A n c) l) : l.length ≤ c ∧ c ≤ maxLen := by
  rcases h.2 with ⟨e, h0⟩ | ⟨g, cap, cur, e, _, _, h1, h2, _⟩
  · injection e with _ _ e
    subst e
    exact ⟨by omega, Nat.zero_le _⟩
  · injection e with _ _ e
    subst e
    exact ⟨h1, h2⟩

set_option maxRecDepth 100000 in
set_option maxHeartbeats 4000000 in
theorem reads_any (A A' : Option Addr) (c c' : Nat) (b : List UInt8) (ks : List Bool) (w : World) (hs : SlB w w.heap.size A b) (hsk : SlK w w.heap.size A' ks) (hlc : b.length ≤ c) (hc : c ≤ maxLen) :
    Calls Try.prog 5 #[.slice A b.length c, .slice A' ks.length c'] w fun e w' => e = .returned (.bool true) ∧ Below w.heap.size w w' := by
  obtain ⟨i0, hi, hz0, hz1, hz2⟩ := info_parts info8
  have hmx : 50000 ≤ maxLen := by decide
  have HCM := Lib.hid hc
  have HS := Lib.hid hs
  have HSK := Lib.hid hsk
  clear hs hc hsk
  by_cases h1 : (5000 : Int) < (b.length : Int)
  · go_enter Try.func5, Try.ntmps5
    go_wp2
    go_ret
    exact ⟨rfl, Below.refl _ _⟩
  by_cases h2 : (100 : Int) < (ks.length : Int)
  · go_enter Try.func5, Try.ntmps5
    go_wp2
    go_ret
    exact ⟨rfl, Below.refl _ _⟩
  have h1' : b.length ≤ 5000 := by omega
  have h2' : ks.length ≤ 100 := by omega
  by_cases hA : A = none
  · have hb0 : b = [] := by
      by_cases hl : b = []
      · exact hl
      · obtain ⟨a, e, _⟩ := HS.out hl
        rw [hA] at e
        cases e
    subst hA hb0
    have ho : Hid (OwnB (w.alloc (.cells #[] 5)) w.heap.size (.slice (some ⟨w.heap.size, 0, none⟩) 0 0) []) := World.ownsRow_lit w #[] 0 (Nat.le_refl _) (by decide) rfl
    have hwb : Hid (Below w.heap.size w (w.alloc (.cells #[] 5))) := (Below.refl _ _).alloc (Nat.le_refl _) _
    go_enter Try.func5, Try.ntmps5
    go_wp2_with fail
    obtain ⟨hoc, hom⟩ := ownB_cap ho.out
    refine (read_any _ _ _ _ [] ks _ (SlB.of_own ho.out).2 (SlK.more (HSK.out.next hwb.out (Nat.le_refl _)) hwb.out.size) (by first | omega | simp) (by omega) hoc hom).mono ?_
    rintro e w2 he
    obtain ⟨XA, xc, rfl, hx, hb2⟩ := readEnd_form he
    have HB2 := Lib.hid (hwb.out.trans (hb2.mono hwb.out.size))
    have HX := Lib.hid hx
    have HO2 := Lib.hid (((SlB.of_own ho.out).2.next hb2 (Nat.le_refl _)).more hb2.size)
    have HSX := Lib.hid ((HS.out.next HB2.out (Nat.le_refl _)).more HB2.out.size)
    have HKX := Lib.hid (SlK.more (HSK.out.next HB2.out (Nat.le_refl _)) HB2.out.size)
    clear he hx hb2 hoc hom
    go_wp2_with fail
    refine (refRead_any _ _ _ _ [] ks _ HSX.out HKX.out (by first | exact h1' | simp) h2' hlc HCM.out).mono ?_
    rintro e w3 he
    obtain ⟨YA, yc, rfl, hy, hb3⟩ := readEnd_form he
    have HB3 := Lib.hid (HB2.out.trans (hb3.mono HB2.out.size))
    have HY := Lib.hid hy
    have HX3 := Lib.hid ((HX.out.next hb3 (Nat.le_refl _)).more hb3.size)
    have HO3 := Lib.hid ((HO2.out.next hb3 (Nat.le_refl _)).more hb3.size)
    have HS3 := Lib.hid ((HSX.out.next hb3 (Nat.le_refl _)).more hb3.size)
    have HPL := Lib.hid (show ((readL ks []).getD []).length ≤ 1048576 by have := @readL_len ks []; omega)
    obtain ⟨PS, hPS⟩ : ∃ P, (readL ks []).getD [] = P := ⟨_, rfl⟩
    rw [hPS] at HY HX3 HPL
    rw [hPS]
    obtain ⟨PE, hPE⟩ : ∃ P : Int, readN ks [] = P := ⟨_, rfl⟩
    rw [hPE]
    clear he hy hb3 hPS hPE HX HO2 HSX HKX
    go_wp2_with fail
    refine (same_any _ _ _ _ PS _ _ HX3.out HY.out HPL.out).mono ?_
    rintro e w4 ⟨rfl, nd, rfl⟩
    have hc1 := slB_string (HO3.out.drewN nd)
    have hc2 := slB_string (HS3.out.drewN nd)
    try simp only [List.length_nil] at hc1 hc2
    go_wp2
    go_ret
    exact ⟨rfl, HB3.out.trans (below_dn (Below.refl _ _) nd)⟩
  · obtain ⟨a, rfl⟩ : ∃ a, A = some a := by
      cases A with
      | none => exact absurd rfl hA
      | some a => exact ⟨a, rfl⟩
    have hcc : Hid (∀ (o : Obj) j u, (cellsL b)[j]? = some u → (w.alloc o).cell? (a.add j) = some u) := fun o j u hu => by
      obtain ⟨x, hx, rfl⟩ := cellsL_at hu
      have hne : b ≠ [] := fun e => by rw [e] at hx; cases hx
      obtain ⟨a', e, hlt, hcc⟩ := HS.out hne
      injection e with e
      subst e
      rw [World.cell?_alloc_lt _ _ _ (by rw [add_block]; exact hlt)]
      exact hcc j x hx
    have ho0 : Hid (OwnB (w.alloc (.cells #[] 5)) w.heap.size (.slice (some ⟨w.heap.size, 0, none⟩) 0 0) []) :=
      World.ownsRow_lit w #[] 0 (Nat.le_refl _) (by decide) rfl
    go_enter Try.func5, Try.ntmps5
    go_wp2_with (at_builtin; refine wpList_append_own _ rfl _ _ 29 rfl w.heap.size 5 i0 (.int .u8 0) 1 1 Try.underlying29 hi hz0 hz1 hz2 rfl (by decide) _ _ _ rfl ho0.out a b.length c (cellsL b) rfl (by rw [cellsL_len]; omega) (hcc.out _) (cellsL_one _) (by simp; omega) (by simp; omega) (by simp) ?_; intro v' w1 hown' hgrow _; have hown2 : OwnB w1 w.heap.size v' b := (by have h8 := hown'; rw [← cellsL_app, List.nil_append] at h8; unfold OwnB; simpa using h8); obtain ⟨OA, oc, rfl⟩ := ownB_form hown2)
    have ho : Hid (OwnB w1 w.heap.size (.slice OA b.length oc) b) := hown2
    have hwb : Hid (Below w.heap.size w w1) := ((Below.refl _ _).alloc (Nat.le_refl _) _).trans (below_own ho0.out hgrow (by simp))
    clear hown' hgrow hown2
    obtain ⟨hoc, hom⟩ := ownB_cap ho.out
    refine (read_any _ _ _ _ b ks _ (SlB.of_own ho.out).2 (SlK.more (HSK.out.next hwb.out (Nat.le_refl _)) hwb.out.size) (by first | omega | simp) (by omega) hoc hom).mono ?_
    rintro e w2 he
    obtain ⟨XA, xc, rfl, hx, hb2⟩ := readEnd_form he
    have HB2 := Lib.hid (hwb.out.trans (hb2.mono hwb.out.size))
    have HX := Lib.hid hx
    have HO2 := Lib.hid (((SlB.of_own ho.out).2.next hb2 (Nat.le_refl _)).more hb2.size)
    have HSX := Lib.hid ((HS.out.next HB2.out (Nat.le_refl _)).more HB2.out.size)
    have HKX := Lib.hid (SlK.more (HSK.out.next HB2.out (Nat.le_refl _)) HB2.out.size)
    clear he hx hb2 hoc hom
    go_wp2_with fail
    refine (refRead_any _ _ _ _ b ks _ HSX.out HKX.out (by first | exact h1' | simp) h2' hlc HCM.out).mono ?_
    rintro e w3 he
    obtain ⟨YA, yc, rfl, hy, hb3⟩ := readEnd_form he
    have HB3 := Lib.hid (HB2.out.trans (hb3.mono HB2.out.size))
    have HY := Lib.hid hy
    have HX3 := Lib.hid ((HX.out.next hb3 (Nat.le_refl _)).more hb3.size)
    have HO3 := Lib.hid ((HO2.out.next hb3 (Nat.le_refl _)).more hb3.size)
    have HS3 := Lib.hid ((HSX.out.next hb3 (Nat.le_refl _)).more hb3.size)
    have HPL := Lib.hid (show ((readL ks b).getD []).length ≤ 1048576 by have := @readL_len ks b; omega)
    obtain ⟨PS, hPS⟩ : ∃ P, (readL ks b).getD [] = P := ⟨_, rfl⟩
    rw [hPS] at HY HX3 HPL
    rw [hPS]
    obtain ⟨PE, hPE⟩ : ∃ P : Int, readN ks b = P := ⟨_, rfl⟩
    rw [hPE]
    clear he hy hb3 hPS hPE HX HO2 HSX HKX
    go_wp2_with fail
    refine (same_any _ _ _ _ PS _ _ HX3.out HY.out HPL.out).mono ?_
    rintro e w4 ⟨rfl, nd, rfl⟩
    have hc1 := slB_string (HO3.out.drewN nd)
    have hc2 := slB_string (HS3.out.drewN nd)
    try simp only [List.length_nil] at hc1 hc2
    go_wp2
    go_ret
    exact ⟨rfl, HB3.out.trans (below_dn (Below.refl _ _) nd)⟩
end Go.Proofs.Ytdlkblnnnmgijaa
