/-
  CONTRACT: text.Named.
-/
import Derived.Test.YthdjlaombbeagaaTNMid
import Derived.Test.YthdjlaombbeagaaTNRef
import Derived.Test.YthdjlaombbeagaaOBytes
import Derived.Test.YthdjlaombbeagaaRegion
namespace Go.Proofs.Ythdjlaombbeagaa
open Go.RowKit

theorem namP_out (l : List UInt8) (h : l = [] ∨ 64 < l.length ∨ beg l ≠ l.length ∨ l = tru ∨ l = fls) : namP l = false := by
  unfold namP
  rw [decide_eq_false]
  · rfl
  · rintro ⟨h1, h2, h3, h4, h5⟩
    rcases h with h | h | h | h | h
    · exact h1 h
    · omega
    · exact h h3
    · exact h4 h
    · exact h5 h
theorem namP_in (l : List UInt8) (h1 : l ≠ []) (h2 : l.length ≤ 64) (h3 : beg l = l.length) (h4 : l ≠ tru) (h5 : l ≠ fls) : namP l = ((tlB l).isEmpty || !digC ((tlB l).headD 0)) := by
  unfold namP
  rw [decide_eq_true ⟨h1, h2, h3, h4, h5⟩]; rfl

/-- what the region keeps -/
def SN (w W : World) : Prop := Below w.heap.size w W ∧ W.cell? ⟨w.heap.size, 0, none⟩ = some (.int .u8 48) ∧ W.cell? ⟨w.heap.size + 1, 0, none⟩ = some (.int .u8 57) ∧ w.heap.size + 2 ≤ W.heap.size
theorem SN.next {w W W' : World} (h : SN w W) (hb : Below W.heap.size W W') : SN w W' :=
  ⟨h.1.trans (hb.mono h.1.size), (hb.cell (p := ⟨w.heap.size, 0, none⟩) (by show w.heap.size < _; have := h.2.2.2; omega)).trans h.2.1, (hb.cell (p := ⟨w.heap.size + 1, 0, none⟩) (by show w.heap.size + 1 < _; have := h.2.2.2; omega)).trans h.2.2.1, Nat.le_trans h.2.2.2 hb.size⟩
theorem SN.drew {w W : World} (h : SN w W) : SN w W.drew := ⟨h.1.drew, h.2.1, h.2.2.1, h.2.2.2⟩
theorem tlB_yes {l : List UInt8} (h : ledB l = true) : tlB l = l.drop 1 := by unfold tlB; rw [if_pos h]
theorem tlB_no {l : List UInt8} (h : ledB l = false) : tlB l = l := by unfold tlB; rw [if_neg (by rw [h]; exact Bool.false_ne_true)]

set_option maxRecDepth 100000 in
set_option maxHeartbeats 2000000 in
theorem named_any (s : ByteArray) (w : World) (hs : s.size ≤ 2000) :
    Calls Try.prog 6 #[.string s] w fun e w' => e = .returned (.bool (namP s.data.toList)) ∧ Below w.heap.size w w' := by
  have hsl := size_list s
  obtain ⟨R, hR⟩ : ∃ R, namP s.data.toList = R := ⟨_, rfl⟩
  rw [hR]
  have HSL := Lib.hid hsl
  have HR := Lib.hid hR
  clear hR hsl
  go_enter Try.func6, Try.ntmps6
  go_wp2_with fail
  refine (between_any 48 57 w).mono ?_
  rintro e w1 ⟨rfl, ⟨p3, p4⟩, hb1, hz1⟩
  have P3 := Lib.hid p3
  have P4 := Lib.hid p4
  have HB1 := Lib.hid hb1
  have HZ1 := Lib.hid hz1
  clear p3 p4 hb1 hz1
  go_wp2_with fail
  refine (between_any 97 122 w1).mono ?_
  rintro e w2 ⟨rfl, ⟨p1, p2⟩, hb2, hz2⟩
  have P1 := Lib.hid p1
  have P2 := Lib.hid p2
  have HB2 := Lib.hid hb2
  have HZ2 := Lib.hid hz2
  clear p1 p2 hb2 hz2
  go_wp2_with fail
  refine (oneOf_any ⟨#[63, 95, 43, 45, 42, 47, 60, 62, 61, 33, 46, 37, 38]⟩ w2).mono ?_
  rintro e w3 ⟨rfl, p5, hb3, hz3⟩
  have P5 := Lib.hid p5
  have HB3 := Lib.hid hb3
  have HZ3 := Lib.hid hz3
  clear p5 hb3 hz3
  go_wp2_with fail
  obtain ⟨w4, hw4⟩ : ∃ w4, w3.alloc (.cells #[.func (.func 13) #[] #[.pointer (some ⟨w1.heap.size, 0, none⟩), .pointer (some ⟨w1.heap.size + 1, 0, none⟩)], .func (.func 13) #[] #[.pointer (some ⟨w.heap.size, 0, none⟩), .pointer (some ⟨w.heap.size + 1, 0, none⟩)], .func (.func 15) #[] #[.pointer (some ⟨w2.heap.size, 0, none⟩)]] 24) = w4 := ⟨_, rfl⟩
  have HW4 := Lib.hid hw4
  rw [hw4]
  clear hw4
  refine (either_any (.slice (some ⟨w3.heap.size, 0, none⟩) 3 3) ⟨_, _, _, rfl⟩ w4).mono ?_
  rintro e w5 ⟨rfl, pc, hb5, hz5⟩
  have HZ4 : Hid (w4.heap.size = w3.heap.size + 1) := by rw [← HW4.out]; show _ = _; simp
  have HB4 : Hid (Below w3.heap.size w3 w4) := by rw [← HW4.out]; exact (Below.refl _ _).alloc (Nat.le_refl _) _
  have HNM : Hid (NmAt w5 w4.heap.size w3.heap.size w1.heap.size (w1.heap.size + 1) w.heap.size (w.heap.size + 1) w2.heap.size) := by
    have z1 := HZ1.out
    have z2 := HZ2.out
    have z3 := HZ3.out
    have z4 := HZ4.out
    have k4 : ∀ b o, b < w4.heap.size → w5.cell? ⟨b, o, none⟩ = w4.cell? ⟨b, o, none⟩ := fun b o h => hb5.cell (p := ⟨b, o, none⟩) h
    have k3 : ∀ b o, b < w3.heap.size → w4.cell? ⟨b, o, none⟩ = w3.cell? ⟨b, o, none⟩ := fun b o h => HB4.out.cell (p := ⟨b, o, none⟩) h
    have k2 : ∀ b o, b < w2.heap.size → w3.cell? ⟨b, o, none⟩ = w2.cell? ⟨b, o, none⟩ := fun b o h => HB3.out.cell (p := ⟨b, o, none⟩) h
    have k1 : ∀ b o, b < w1.heap.size → w2.cell? ⟨b, o, none⟩ = w1.cell? ⟨b, o, none⟩ := fun b o h => HB2.out.cell (p := ⟨b, o, none⟩) h
    refine ⟨pc, ?_, ?_, ?_, ?_, ?_, ?_, ?_, ?_⟩
    · rw [k4 _ _ (by omega), ← HW4.out]; simp
    · rw [k4 _ _ (by omega), ← HW4.out]; simp
    · rw [k4 _ _ (by omega), ← HW4.out]; simp
    · rw [k4 _ _ (by omega), k3 _ _ (by omega), k2 _ _ (by omega)]; exact P1.out
    · rw [k4 _ _ (by omega), k3 _ _ (by omega), k2 _ _ (by omega)]; exact P2.out
    · rw [k4 _ _ (by omega), k3 _ _ (by omega), k2 _ _ (by omega), k1 _ _ (by omega)]; exact P3.out
    · rw [k4 _ _ (by omega), k3 _ _ (by omega), k2 _ _ (by omega), k1 _ _ (by omega)]; exact P4.out
    · rw [k4 _ _ (by omega), k3 _ _ (by omega)]; exact P5.out
  have HBE : Hid (Below w.heap.size w w5) := HB1.out.trans ((HB2.out.mono (by have := HZ1.out; omega)).trans ((HB3.out.mono (by have := HZ1.out; have := HZ2.out; omega)).trans ((HB4.out.mono (by have := HZ1.out; have := HZ2.out; have := HZ3.out; omega)).trans (hb5.mono (by have := HZ1.out; have := HZ2.out; have := HZ3.out; have := HZ4.out; omega)))))
  have HZ5 := Lib.hid hz5
  clear pc hb5 hz5
  have el : s.toList = s.data.toList := ByteArray.toList_eq s
  by_cases h0 : s.size = 0
  · have hl : s.data.toList = [] := List.length_eq_zero_iff.1 (by rw [HSL.out]; exact h0)
    have HRF : Hid (R = false) := by rw [← HR.out]; exact namP_out _ (.inl hl)
    have hE : s.toList = [] := by rw [el, hl]
    clear h0 hl el
    go_wp2
    go_ret
    exact ⟨by rw [HRF.out]; rfl, HBE.out⟩
  have hpos : 0 < s.size := by omega
  have hne : s.data.toList ≠ [] := fun e => by have := HSL.out; rw [e] at this; simp at this; omega
  have hE : s.toList.isEmpty = false := by
    rw [el]
    cases hs : s.data.toList with
    | nil => exact absurd hs hne
    | cons a r => rfl
  have hE2 : (s.toList == []) = false := by rw [el]; exact beq_eq_false_iff_ne.2 hne
  by_cases h64 : 64 < s.size
  · have HRF : Hid (R = false) := by rw [← HR.out]; exact namP_out _ (.inr (.inl (by rw [HSL.out]; exact h64)))
    have hi : (64 : Int) < (s.size : Int) := by omega
    clear h0 el hne
    go_wp2
    go_ret
    exact ⟨by rw [HRF.out]; rfl, HBE.out⟩
  have hi : ¬ (64 : Int) < (s.size : Int) := by omega
  have hbg := begins_any' w4.heap.size w3.heap.size w1.heap.size (w1.heap.size + 1) w.heap.size (w.heap.size + 1) w2.heap.size s w5 HNM.out (by omega)
  have hble := beg_le s.data.toList
  rw [HSL.out] at hble
  by_cases hb : beg s.data.toList < s.size
  · have HRF : Hid (R = false) := by rw [← HR.out]; exact namP_out _ (.inr (.inr (.inl (by rw [HSL.out]; omega))))
    obtain ⟨B, hB⟩ : ∃ B, beg s.data.toList = B := ⟨_, rfl⟩
    rw [hB] at hbg hb
    have HBG := Lib.hid hbg
    have hbi : (B : Int) < (s.size : Int) := by omega
    clear h0 el hne hbg hB hble
    go_wp2_with fail
    refine HBG.out.mono ?_
    rintro e w' ⟨rfl, rfl⟩
    go_wp2
    go_ret
    exact ⟨by rw [HRF.out]; rfl, HBE.out⟩
  have HBQ : Hid (beg s.data.toList = s.data.toList.length) := by rw [HSL.out]; show _ = _; omega
  have hbe : beg s.data.toList = s.size := by omega
  rw [hbe] at hbg
  have HBG := Lib.hid hbg
  have hbi : ¬ (s.size : Int) < (s.size : Int) := by omega
  clear hbg hbe hble hb
  by_cases hT : s.data.toList = tru
  · have HRF : Hid (R = false) := by rw [← HR.out]; exact namP_out _ (.inr (.inr (.inr (.inl hT))))
    have hTi : (s.toList == [116, 114, 117, 101]) = true := by rw [el, hT]; rfl
    clear h0 el hne hT
    go_wp2_with fail
    refine HBG.out.mono ?_
    rintro e w' ⟨rfl, rfl⟩
    go_wp2
    go_ret
    exact ⟨by rw [HRF.out]; rfl, HBE.out⟩
  have hTi : (s.toList == [116, 114, 117, 101]) = false := by rw [el]; exact beq_eq_false_iff_ne.2 hT
  by_cases hF : s.data.toList = fls
  · have HRF : Hid (R = false) := by rw [← HR.out]; exact namP_out _ (.inr (.inr (.inr (.inr hF))))
    have hFi : (s.toList == [102, 97, 108, 115, 101]) = true := by rw [el, hF]; rfl
    clear h0 el hne hT hF
    go_wp2_with fail
    refine HBG.out.mono ?_
    rintro e w' ⟨rfl, rfl⟩
    go_wp2
    go_ret
    exact ⟨by rw [HRF.out]; rfl, HBE.out⟩
  have hFi : (s.toList == [102, 97, 108, 115, 101]) = false := by rw [el]; exact beq_eq_false_iff_ne.2 hF
  have HRP : Hid (R = ((tlB s.data.toList).isEmpty || !digC ((tlB s.data.toList).headD 0))) := by rw [← HR.out]; exact namP_in _ hne (by rw [HSL.out]; omega) HBQ.out hT hF
  have HEL := Lib.hid el
  clear h0 el hne hT hF
  go_wp2_with fail
  refine HBG.out.mono ?_
  rintro e w' ⟨rfl, rfl⟩
  go_wp2_with fail
  have hhd := head_at s hpos
  have HLD : Hid (ledB s.data.toList = sgl.contains s[0]) := by show _ = _; unfold ledB; rw [hhd]
  have HHD := Lib.hid hhd
  have hcl : (⟨#[43, 45, 33]⟩ : ByteArray).data.toList = sgl := rfl
  have HCL := Lib.hid hcl
  obtain ⟨wd, hwd⟩ : ∃ wd, w5.drew = wd := ⟨_, rfl⟩
  have HSD : Hid (SN w wd) := by
    rw [← hwd]
    exact SN.drew ⟨HBE.out, HNM.out.p3, HNM.out.p4, by have := HZ1.out; have := HZ2.out; have := HZ3.out; have := HZ4.out; have := HZ5.out; omega⟩
  clear hhd hcl
  refine wp_region_held_drew (S := SN w) (by kernel_rfl) (by rw [hwd]; exact HSD.out) (fun hHeld => ?_)
  rw [hwd] at hHeld ⊢
  clear hwd
  refine takeV 1 (some 35) ((.string s)) rfl rfl (by kernel_rfl) (by kernel_rfl) (by kernel_rfl) (fun _ _ _ h => h) (by rfl) (by (intro _w _hSw; (try dsimp only at _hSw); go_simp)) (by assumption) ?_
  simp only [Act.put, List.setIfInBounds_toArray, List.set_cons_zero, List.set_cons_succ]
  refine takeV 2 (some 36) ((.int .u8 (s[0].toNat : Int))) rfl rfl (by kernel_rfl) (by kernel_rfl) (by kernel_rfl) (fun _ _ _ h => h) (by rfl) (by (intro _w _hSw; (try dsimp only at _hSw); go_simp)) (by assumption) ?_
  simp only [Act.put, List.setIfInBounds_toArray, List.set_cons_zero, List.set_cons_succ]
  refine callV 0 rfl (by kernel_rfl) (by rfl) (fun K hK => ?_)
  go_simp
  refine (oneOf_any ⟨#[43, 45, 33]⟩ _).mono ?_
  rintro e w6 ⟨rfl, p6, hb6, hz6⟩
  refine hK.out _ _ (SN.next hHeld hb6) (fun hHeld2 => ?_)
  have P6 := Lib.hid p6
  clear hK K p6 hz6
  try simp only [Act.put, List.setIfInBounds_toArray, List.set_cons_zero, List.set_cons_succ]
  have hcon := oneOf1_any ⟨#[43, 45, 33]⟩ s[0] wd.heap.size w6 P6.out
  rw [HCL.out] at hcon
  obtain ⟨L, hL⟩ : ∃ L, sgl.contains s[0] = L := ⟨_, rfl⟩
  rw [hL] at hcon HLD
  have HCN := Lib.hid hcon
  clear hcon hL
  refine callV 3 rfl (by kernel_rfl) (by rfl) (fun K hK => ?_)
  go_simp
  refine HCN.out.mono ?_
  rintro e w7 ⟨rfl, rfl⟩
  refine hK.out _ _ hHeld2 (fun hHeld3 => ?_)
  clear hK K
  try simp only [Act.put, List.setIfInBounds_toArray, List.set_cons_zero, List.set_cons_succ]
  refine wpAnyH_done (by kernel_rfl) ?_ _
  have HS := Lib.hid hHeld3
  clear hHeld hHeld2 hHeld3 hb6 HSD
  cases L with
  | false =>
    have HRE : Hid (R = !digC s[0]) := by
      show _ = _
      rw [HRP.out, tlB_no HLD.out, ← HEL.out, hE, HEL.out, HHD.out]; rfl
    have hcon := betw1_any 48 57 s[0] w.heap.size (w.heap.size + 1) w6 HS.out.2.1 HS.out.2.2.1
    obtain ⟨D, hD⟩ : ∃ D, digC s[0] = D := ⟨_, rfl⟩
    rw [show decide ((48 : Int) ≤ (s[0].toNat : Int) ∧ (s[0].toNat : Int) ≤ 57) = digC s[0] from rfl, hD] at hcon
    rw [hD] at HRE
    have HCN2 := Lib.hid hcon
    clear hD hcon
    go_wp2_with fail
    refine HCN2.out.mono ?_
    rintro e w' ⟨rfl, rfl⟩
    go_wp2
    go_ret
    exact ⟨by rw [HRE.out]; rfl, HS.out.1⟩
  | true =>
    obtain ⟨X, hX⟩ : ∃ X, s.extract 1 s.size = X := ⟨_, rfl⟩
    have hXl : X.data.toList = s.data.toList.drop 1 := by
      rw [← hX, ByteArray.data_extract, Array.toList_extract, List.extract_eq_take_drop, List.take_of_length_le (by rw [List.length_drop, HSL.out]; omega)]
    have hXs : X.size = s.size - 1 := by rw [← size_list X, hXl, List.length_drop, HSL.out]
    have hXe : X.toList = X.data.toList := ByteArray.toList_eq X
    have HRE : Hid (R = (X.data.toList.isEmpty || !digC (X.data.toList.headD 0))) := by
      show _ = _
      rw [HRP.out, tlB_yes HLD.out, hXl]
    by_cases h1 : X.size = 0
    · have hl : X.data.toList = [] := List.length_eq_zero_iff.1 (by rw [size_list, h1])
      have HRT : Hid (R = true) := by show _ = _; rw [HRE.out, hl]; rfl
      have hE3 : X.toList = [] := by rw [hXe, hl]
      have hs1 : (1 : Int) ≤ (s.size : Int) := by omega
      clear hXl hXs hXe h1 hl
      go_wp2
      go_ret
      exact ⟨by rw [HRT.out]; rfl, HS.out.1⟩
    · have hXp : 0 < X.size := by omega
      have hne : X.data.toList ≠ [] := fun e => h1 (by rw [← size_list X, e]; rfl)
      have hE3 : X.toList.isEmpty = false := by
        rw [hXe]
        cases hq : X.data.toList with
        | nil => exact absurd hq hne
        | cons a r => rfl
      have hE4 : ¬ X.toList = [] := by rw [hXe]; exact hne
      have HRT : Hid (R = !digC X[0]) := by show _ = _; rw [HRE.out, ← hXe, hE3, hXe, head_at X hXp]; rfl
      have hcon := betw1_any 48 57 X[0] w.heap.size (w.heap.size + 1) w6 HS.out.2.1 HS.out.2.2.1
      obtain ⟨D, hD⟩ : ∃ D, digC X[0] = D := ⟨_, rfl⟩
      rw [show decide ((48 : Int) ≤ (X[0].toNat : Int) ∧ (X[0].toNat : Int) ≤ 57) = digC X[0] from rfl, hD] at hcon
      rw [hD] at HRT
      have HCN2 := Lib.hid hcon
      have hs1 : (1 : Int) ≤ (s.size : Int) := by omega
      clear hD hcon hXl hXs hXe h1 hne
      go_wp2_with fail
      refine HCN2.out.mono ?_
      rintro e w' ⟨rfl, rfl⟩
      go_wp2
      go_ret
      exact ⟨by rw [HRT.out]; rfl, HS.out.1⟩
end Go.Proofs.Ythdjlaombbeagaa
