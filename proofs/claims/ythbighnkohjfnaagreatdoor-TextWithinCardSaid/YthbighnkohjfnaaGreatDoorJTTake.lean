import Derived.Test.YthbighnkohjfnaaGreatDoorJTNMid
import Derived.Test.YthbighnkohjfnaaGreatDoorJTNRef
import Derived.Test.YthbighnkohjfnaaGreatDoorJTCur
import Derived.Test.YthbighnkohjfnaaGreatDoorJTAddD
import Derived.Test.YthbighnkohjfnaaGreatDoorJTClose
import Derived.Test.YthbighnkohjfnaaGreatDoorJTTell
/-
  CONTRACT: text.Named.
-/
namespace Go.Proofs.YthbighnkohjfnaaGreatDoor
open Go.RowKit

theorem namP_out (l : List UInt8) (h : l = [] ∨ 64 < l.length ∨ beg l ≠ l.length ∨ l = tru ∨ l = fls) : namP l = false := by
  unfold namP
  rw [decide_eq_false]
  · rfl
  · rintro ⟨h1, h2, h3, h4, h5⟩
    rcases h with h | h | h | h | h
    · exact h1 h
    · omega
    · exact h h3
    · exact h4 h
    · exact h5 h
theorem namP_in (l : List UInt8) (h1 : l ≠ []) (h2 : l.length ≤ 64) (h3 : beg l = l.length) (h4 : l ≠ tru) (h5 : l ≠ fls) : namP l = ((tlB l).isEmpty || !digC ((tlB l).headD 0)) := by
  unfold namP
  rw [decide_eq_true ⟨h1, h2, h3, h4, h5⟩]; rfl

/-- what the region keeps -/
def SN (w W : World) : Prop := Below w.heap.size w W ∧ W.cell? ⟨w.heap.size, 0, none⟩ = some (.int .u8 48) ∧ W.cell? ⟨w.heap.size + 1, 0, none⟩ = some (.int .u8 57) ∧ w.heap.size + 2 ≤ W.heap.size
theorem SN.next {w W W' : World} (h : SN w W) (hb : Below W.heap.size W W') : SN w W' :=
  ⟨h.1.trans (hb.mono h.1.size), (hb.cell (p := ⟨w.heap.size, 0, none⟩) (by show w.heap.size < _; have := h.2.2.2; omega)).trans h.2.1, (hb.cell (p := ⟨w.heap.size + 1, 0, none⟩) (by show w.heap.size + 1 < _; have := h.2.2.2; omega)).trans h.2.2.1, Nat.le_trans h.2.2.2 hb.size⟩
theorem SN.drew {w W : World} (h : SN w W) : SN w W.drew := ⟨h.1.drew, h.2.1, h.2.2.1, h.2.2.2⟩
theorem tlB_yes {l : List UInt8} (h : ledB l = true) : tlB l = l.drop 1 := by unfold tlB; rw [if_pos h]
theorem tlB_no {l : List UInt8} (h : ledB l = false) : tlB l = l := by unfold tlB; rw [if_neg (by rw [h]; exact Bool.false_ne_true)]

set_option maxRecDepth 100000 in
set_option maxHeartbeats 2000000 in
theorem named_any (s : ByteArray) (w : World) (hs : s.size ≤ 60000) :
    Calls Tryz.prog 11 #[.string s] w fun e w' => e = .returned (.bool (namP s.data.toList)) ∧ Below w.heap.size w w' := by
  have hsl := size_list s
  obtain ⟨R, hR⟩ : ∃ R, namP s.data.toList = R := ⟨_, rfl⟩
  rw [hR]
  have HSL := Lib.hid hsl
  have HR := Lib.hid hR
  clear hR hsl
  go_enter Tryz.func11, Tryz.ntmps11
  go_wp2_with fail
  refine (between_any 48 57 w).mono ?_
  rintro e w1 ⟨rfl, ⟨p3, p4⟩, hb1, hz1⟩
  have P3 := Lib.hid p3
  have P4 := Lib.hid p4
  have HB1 := Lib.hid hb1
  have HZ1 := Lib.hid hz1
  clear p3 p4 hb1 hz1
  go_wp2_with fail
  refine (between_any 97 122 w1).mono ?_
  rintro e w2 ⟨rfl, ⟨p1, p2⟩, hb2, hz2⟩
  have P1 := Lib.hid p1
  have P2 := Lib.hid p2
  have HB2 := Lib.hid hb2
  have HZ2 := Lib.hid hz2
  clear p1 p2 hb2 hz2
  go_wp2_with fail
  refine (oneOf_any ⟨#[63, 95, 43, 45, 42, 47, 60, 62, 61, 33, 46, 37, 38]⟩ w2).mono ?_
  rintro e w3 ⟨rfl, p5, hb3, hz3⟩
  have P5 := Lib.hid p5
  have HB3 := Lib.hid hb3
  have HZ3 := Lib.hid hz3
  clear p5 hb3 hz3
  go_wp2_with fail
  obtain ⟨w4, hw4⟩ : ∃ w4, w3.alloc (.cells #[.func (.func 41) #[] #[.pointer (some ⟨w1.heap.size, 0, none⟩), .pointer (some ⟨w1.heap.size + 1, 0, none⟩)], .func (.func 41) #[] #[.pointer (some ⟨w.heap.size, 0, none⟩), .pointer (some ⟨w.heap.size + 1, 0, none⟩)], .func (.func 43) #[] #[.pointer (some ⟨w2.heap.size, 0, none⟩)]] 55) = w4 := ⟨_, rfl⟩
  have HW4 := Lib.hid hw4
  rw [hw4]
  clear hw4
  refine (either_any (.slice (some ⟨w3.heap.size, 0, none⟩) 3 3) ⟨_, _, _, rfl⟩ w4).mono ?_
  rintro e w5 ⟨rfl, pc, hb5, hz5⟩
  have HZ4 : Hid (w4.heap.size = w3.heap.size + 1) := by rw [← HW4.out]; show _ = _; simp
  have HB4 : Hid (Below w3.heap.size w3 w4) := by rw [← HW4.out]; exact (Below.refl _ _).alloc (Nat.le_refl _) _
  have HNM : Hid (NmAt w5 w4.heap.size w3.heap.size w1.heap.size (w1.heap.size + 1) w.heap.size (w.heap.size + 1) w2.heap.size) := by
    have z1 := HZ1.out
    have z2 := HZ2.out
    have z3 := HZ3.out
    have z4 := HZ4.out
    have k4 : ∀ b o, b < w4.heap.size → w5.cell? ⟨b, o, none⟩ = w4.cell? ⟨b, o, none⟩ := fun b o h => hb5.cell (p := ⟨b, o, none⟩) h
    have k3 : ∀ b o, b < w3.heap.size → w4.cell? ⟨b, o, none⟩ = w3.cell? ⟨b, o, none⟩ := fun b o h => HB4.out.cell (p := ⟨b, o, none⟩) h
    have k2 : ∀ b o, b < w2.heap.size → w3.cell? ⟨b, o, none⟩ = w2.cell? ⟨b, o, none⟩ := fun b o h => HB3.out.cell (p := ⟨b, o, none⟩) h
    have k1 : ∀ b o, b < w1.heap.size → w2.cell? ⟨b, o, none⟩ = w1.cell? ⟨b, o, none⟩ := fun b o h => HB2.out.cell (p := ⟨b, o, none⟩) h
    refine ⟨pc, ?_, ?_, ?_, ?_, ?_, ?_, ?_, ?_⟩
    · rw [k4 _ _ (by omega), ← HW4.out]; simp
    · rw [k4 _ _ (by omega), ← HW4.out]; simp
    · rw [k4 _ _ (by omega), ← HW4.out]; simp
    · rw [k4 _ _ (by omega), k3 _ _ (by omega), k2 _ _ (by omega)]; exact P1.out
    · rw [k4 _ _ (by omega), k3 _ _ (by omega), k2 _ _ (by omega)]; exact P2.out
    · rw [k4 _ _ (by omega), k3 _ _ (by omega), k2 _ _ (by omega), k1 _ _ (by omega)]; exact P3.out
    · rw [k4 _ _ (by omega), k3 _ _ (by omega), k2 _ _ (by omega), k1 _ _ (by omega)]; exact P4.out
    · rw [k4 _ _ (by omega), k3 _ _ (by omega)]; exact P5.out
  have HBE : Hid (Below w.heap.size w w5) := HB1.out.trans ((HB2.out.mono (by have := HZ1.out; omega)).trans ((HB3.out.mono (by have := HZ1.out; have := HZ2.out; omega)).trans ((HB4.out.mono (by have := HZ1.out; have := HZ2.out; have := HZ3.out; omega)).trans (hb5.mono (by have := HZ1.out; have := HZ2.out; have := HZ3.out; have := HZ4.out; omega)))))
  have HZ5 := Lib.hid hz5
  clear pc hb5 hz5
  have el : s.toList = s.data.toList := ByteArray.toList_eq s
  by_cases h0 : s.size = 0
  · have hl : s.data.toList = [] := List.length_eq_zero_iff.1 (by rw [HSL.out]; exact h0)
    have HRF : Hid (R = false) := by rw [← HR.out]; exact namP_out _ (.inl hl)
    have hE : s.toList = [] := by rw [el, hl]
    clear h0 hl el
    go_wp2
    go_ret
    exact ⟨by rw [HRF.out]; rfl, HBE.out⟩
  have hpos : 0 < s.size := by omega
  have hne : s.data.toList ≠ [] := fun e => by have := HSL.out; rw [e] at this; simp at this; omega
  have hE : s.toList.isEmpty = false := by
    rw [el]
    cases hs : s.data.toList with
    | nil => exact absurd hs hne
    | cons a r => rfl
  have hE2 : (s.toList == []) = false := by rw [el]; exact beq_eq_false_iff_ne.2 hne
  by_cases h64 : 64 < s.size
  · have HRF : Hid (R = false) := by rw [← HR.out]; exact namP_out _ (.inr (.inl (by rw [HSL.out]; exact h64)))
    have hi : (64 : Int) < (s.size : Int) := by omega
    clear h0 el hne
    go_wp2
    go_ret
    exact ⟨by rw [HRF.out]; rfl, HBE.out⟩
  have hi : ¬ (64 : Int) < (s.size : Int) := by omega
  have hbg := begins_any' w4.heap.size w3.heap.size w1.heap.size (w1.heap.size + 1) w.heap.size (w.heap.size + 1) w2.heap.size s w5 HNM.out (by omega)
  have hble := beg_le s.data.toList
  rw [HSL.out] at hble
  by_cases hb : beg s.data.toList < s.size
  · have HRF : Hid (R = false) := by rw [← HR.out]; exact namP_out _ (.inr (.inr (.inl (by rw [HSL.out]; omega))))
    obtain ⟨B, hB⟩ : ∃ B, beg s.data.toList = B := ⟨_, rfl⟩
    rw [hB] at hbg hb
    have HBG := Lib.hid hbg
    have hbi : (B : Int) < (s.size : Int) := by omega
    clear h0 el hne hbg hB hble
    go_wp2_with fail
    refine HBG.out.mono ?_
    rintro e w' ⟨rfl, rfl⟩
    go_wp2
    go_ret
    exact ⟨by rw [HRF.out]; rfl, HBE.out⟩
  have HBQ : Hid (beg s.data.toList = s.data.toList.length) := by rw [HSL.out]; show _ = _; omega
  have hbe : beg s.data.toList = s.size := by omega
  rw [hbe] at hbg
  have HBG := Lib.hid hbg
  have hbi : ¬ (s.size : Int) < (s.size : Int) := by omega
  clear hbg hbe hble hb
  by_cases hT : s.data.toList = tru
  · have HRF : Hid (R = false) := by rw [← HR.out]; exact namP_out _ (.inr (.inr (.inr (.inl hT))))
    have hTi : (s.toList == [116, 114, 117, 101]) = true := by rw [el, hT]; rfl
    clear h0 el hne hT
    go_wp2_with fail
    refine HBG.out.mono ?_
    rintro e w' ⟨rfl, rfl⟩
    go_wp2
    go_ret
    exact ⟨by rw [HRF.out]; rfl, HBE.out⟩
  have hTi : (s.toList == [116, 114, 117, 101]) = false := by rw [el]; exact beq_eq_false_iff_ne.2 hT
  by_cases hF : s.data.toList = fls
  · have HRF : Hid (R = false) := by rw [← HR.out]; exact namP_out _ (.inr (.inr (.inr (.inr hF))))
    have hFi : (s.toList == [102, 97, 108, 115, 101]) = true := by rw [el, hF]; rfl
    clear h0 el hne hT hF
    go_wp2_with fail
    refine HBG.out.mono ?_
    rintro e w' ⟨rfl, rfl⟩
    go_wp2
    go_ret
    exact ⟨by rw [HRF.out]; rfl, HBE.out⟩
  have hFi : (s.toList == [102, 97, 108, 115, 101]) = false := by rw [el]; exact beq_eq_false_iff_ne.2 hF
  have HRP : Hid (R = ((tlB s.data.toList).isEmpty || !digC ((tlB s.data.toList).headD 0))) := by rw [← HR.out]; exact namP_in _ hne (by rw [HSL.out]; omega) HBQ.out hT hF
  have HEL := Lib.hid el
  clear h0 el hne hT hF
  go_wp2_with fail
  refine HBG.out.mono ?_
  rintro e w' ⟨rfl, rfl⟩
  go_wp2_with fail
  have hhd := head_at s hpos
  have HLD : Hid (ledB s.data.toList = sgl.contains s[0]) := by show _ = _; unfold ledB; rw [hhd]
  have HHD := Lib.hid hhd
  have hcl : (⟨#[43, 45, 33]⟩ : ByteArray).data.toList = sgl := rfl
  have HCL := Lib.hid hcl
  obtain ⟨wd, hwd⟩ : ∃ wd, w5.drew = wd := ⟨_, rfl⟩
  have HSD : Hid (SN w wd) := by
    rw [← hwd]
    exact SN.drew ⟨HBE.out, HNM.out.p3, HNM.out.p4, by have := HZ1.out; have := HZ2.out; have := HZ3.out; have := HZ4.out; have := HZ5.out; omega⟩
  clear hhd hcl
  refine wp_region_held_drew (S := SN w) (by kernel_rfl) (by rw [hwd]; exact HSD.out) (fun hHeld => ?_)
  rw [hwd] at hHeld ⊢
  clear hwd
  refine takeV 1 (some 35) ((.string s)) rfl rfl (by kernel_rfl) (by kernel_rfl) (by kernel_rfl) (fun _ _ _ h => h) (by rfl) (by (intro _w _hSw; (try dsimp only at _hSw); go_simp)) (by assumption) ?_
  simp only [Act.put, List.setIfInBounds_toArray, List.set_cons_zero, List.set_cons_succ]
  refine takeV 2 (some 36) ((.int .u8 (s[0].toNat : Int))) rfl rfl (by kernel_rfl) (by kernel_rfl) (by kernel_rfl) (fun _ _ _ h => h) (by rfl) (by (intro _w _hSw; (try dsimp only at _hSw); go_simp)) (by assumption) ?_
  simp only [Act.put, List.setIfInBounds_toArray, List.set_cons_zero, List.set_cons_succ]
  refine callV 0 rfl (by kernel_rfl) (by rfl) (fun K hK => ?_)
  go_simp
  refine (oneOf_any ⟨#[43, 45, 33]⟩ _).mono ?_
  rintro e w6 ⟨rfl, p6, hb6, hz6⟩
  refine hK.out _ _ (SN.next hHeld hb6) (fun hHeld2 => ?_)
  have P6 := Lib.hid p6
  clear hK K p6 hz6
  try simp only [Act.put, List.setIfInBounds_toArray, List.set_cons_zero, List.set_cons_succ]
  have hcon := oneOf1_any ⟨#[43, 45, 33]⟩ s[0] wd.heap.size w6 P6.out
  rw [HCL.out] at hcon
  obtain ⟨L, hL⟩ : ∃ L, sgl.contains s[0] = L := ⟨_, rfl⟩
  rw [hL] at hcon HLD
  have HCN := Lib.hid hcon
  clear hcon hL
  refine callV 3 rfl (by kernel_rfl) (by rfl) (fun K hK => ?_)
  go_simp
  refine HCN.out.mono ?_
  rintro e w7 ⟨rfl, rfl⟩
  refine hK.out _ _ hHeld2 (fun hHeld3 => ?_)
  clear hK K
  try simp only [Act.put, List.setIfInBounds_toArray, List.set_cons_zero, List.set_cons_succ]
  refine wpAnyH_done (by kernel_rfl) ?_ _
  have HS := Lib.hid hHeld3
  clear hHeld hHeld2 hHeld3 hb6 HSD
  cases L with
  | false =>
    have HRE : Hid (R = !digC s[0]) := by
      show _ = _
      rw [HRP.out, tlB_no HLD.out, ← HEL.out, hE, HEL.out, HHD.out]; rfl
    have hcon := betw1_any 48 57 s[0] w.heap.size (w.heap.size + 1) w6 HS.out.2.1 HS.out.2.2.1
    obtain ⟨D, hD⟩ : ∃ D, digC s[0] = D := ⟨_, rfl⟩
    rw [show decide ((48 : Int) ≤ (s[0].toNat : Int) ∧ (s[0].toNat : Int) ≤ 57) = digC s[0] from rfl, hD] at hcon
    rw [hD] at HRE
    have HCN2 := Lib.hid hcon
    clear hD hcon
    go_wp2_with fail
    refine HCN2.out.mono ?_
    rintro e w' ⟨rfl, rfl⟩
    go_wp2
    go_ret
    exact ⟨by rw [HRE.out]; rfl, HS.out.1⟩
  | true =>
    obtain ⟨X, hX⟩ : ∃ X, s.extract 1 s.size = X := ⟨_, rfl⟩
    have hXl : X.data.toList = s.data.toList.drop 1 := by
      rw [← hX, ByteArray.data_extract, Array.toList_extract, List.extract_eq_take_drop, List.take_of_length_le (by rw [List.length_drop, HSL.out]; omega)]
    have hXs : X.size = s.size - 1 := by rw [← size_list X, hXl, List.length_drop, HSL.out]
    have hXe : X.toList = X.data.toList := ByteArray.toList_eq X
    have HRE : Hid (R = (X.data.toList.isEmpty || !digC (X.data.toList.headD 0))) := by
      show _ = _
      rw [HRP.out, tlB_yes HLD.out, hXl]
    by_cases h1 : X.size = 0
    · have hl : X.data.toList = [] := List.length_eq_zero_iff.1 (by rw [size_list, h1])
      have HRT : Hid (R = true) := by show _ = _; rw [HRE.out, hl]; rfl
      have hE3 : X.toList = [] := by rw [hXe, hl]
      have hs1 : (1 : Int) ≤ (s.size : Int) := by omega
      clear hXl hXs hXe h1 hl
      go_wp2
      go_ret
      exact ⟨by rw [HRT.out]; rfl, HS.out.1⟩
    · have hXp : 0 < X.size := by omega
      have hne : X.data.toList ≠ [] := fun e => h1 (by rw [← size_list X, e]; rfl)
      have hE3 : X.toList.isEmpty = false := by
        rw [hXe]
        cases hq : X.data.toList with
        | nil => exact absurd hq hne
        | cons a r => rfl
      have hE4 : ¬ X.toList = [] := by rw [hXe]; exact hne
      have HRT : Hid (R = !digC X[0]) := by show _ = _; rw [HRE.out, ← hXe, hE3, hXe, head_at X hXp]; rfl
      have hcon := betw1_any 48 57 X[0] w.heap.size (w.heap.size + 1) w6 HS.out.2.1 HS.out.2.2.1
      obtain ⟨D, hD⟩ : ∃ D, digC X[0] = D := ⟨_, rfl⟩
      rw [show decide ((48 : Int) ≤ (X[0].toNat : Int) ∧ (X[0].toNat : Int) ≤ 57) = digC X[0] from rfl, hD] at hcon
      rw [hD] at HRT
      have HCN2 := Lib.hid hcon
      have hs1 : (1 : Int) ≤ (s.size : Int) := by omega
      clear hD hcon hXl hXs hXe h1 hne
      go_wp2_with fail
      refine HCN2.out.mono ?_
      rintro e w' ⟨rfl, rfl⟩
      go_wp2
      go_ret
      exact ⟨by rw [HRT.out]; rfl, HS.out.1⟩
end Go.Proofs.YthbighnkohjfnaaGreatDoor

/-
  CONTRACT: nodeOf (the node that begins with a token).
-/
namespace Go.Proofs.YthbighnkohjfnaaGreatDoor
open Go.RowKit Go.Shelf

set_option maxHeartbeats 400000 in
theorem cloneS_str (s : ByteArray) (w : World) (hs : s.size ≤ 100000) : Calls Tryz.prog 72 #[.string s] w fun e w' => e = .returned (.string s) ∧ Below w.heap.size w w' := by
  have H := Lib.hid (Tryz.stringslite_Clone s w (by omega))
  go_enter Tryz.func72, Tryz.ntmps72
  go_wp2_with fail
  refine H.out.mono ?_
  rintro e w' ⟨rfl, hb⟩
  go_wp2
  go_ret
  exact ⟨rfl, hb⟩
/-- a node without kids, as a value -/
def nodV (k vk vn : Int) (vs s : ByteArray) (p : Nat × Nat) : Value := .agg #[.int .i64 k, .int .i64 vk, .int .i64 vn, .string vs, .string s, .slice none 0 0, .int .i64 (p.1 : Int), .int .i64 (p.2 : Int)]
/-- what nodeOf answers -/
noncomputable def nodA (x : Tk) : Value :=
  if x.1 = 1 then .tuple #[nodV ((openC (x.2.1.data.toList.headD 0)).getD (0, 0)).1 0 0 ⟨#[]⟩ ⟨#[]⟩ x.2.2, .bool true]
  else match pvL x.2.1.data.toList with
    | some v => .tuple #[nodV 1 v.1 v.2.1 ⟨v.2.2.toArray⟩ ⟨#[]⟩ x.2.2, .bool true]
    | none => .tuple #[nodV 2 0 0 ⟨#[]⟩ x.2.1 x.2.2, .bool (namP x.2.1.data.toList)]
/-- a node without kids in its block -/
def BxN (W : World) (b : Nat) (k vk vn : Int) (vs s : ByteArray) (p : Nat × Nat) : Prop := W.heap[b]? = some (.cells #[.int .i64 k, .int .i64 vk, .int .i64 vn, .string vs, .string s, .slice none 0 0, .int .i64 (p.1 : Int), .int .i64 (p.2 : Int)] 37 (0, 0))
section
variable {W W' : World} {b : Nat} {k vk vn : Int} {vs s : ByteArray} {p : Nat × Nat}
theorem BxN.cell (h : BxN W b k vk vn vs s p) (j : Nat) : W.cell? ⟨b, j, none⟩ = (#[Value.int .i64 k, .int .i64 vk, .int .i64 vn, .string vs, .string s, .slice none 0 0, .int .i64 (p.1 : Int), .int .i64 (p.2 : Int)])[j]? := by unfold BxN at h; simp [World.cell?, h]
theorem BxN.fz (h : BxN W b k vk vn vs s p) (j : Nat) : W.frozen? ⟨b, j, none⟩ = false := by unfold BxN at h; simp [World.frozen?, h]
theorem BxN.lt (h : BxN W b k vk vn vs s p) : b < W.heap.size := (Array.getElem?_eq_some_iff.1 h).1
theorem BxN.below (h : BxN W b k vk vn vs s p) (hb : Below W.heap.size W W') : BxN W' b k vk vn vs s p := (hb.block b h.lt).trans h
theorem BxN.setK (h : BxN W b k vk vn vs s p) (k' : Int) : BxN (W.setCell ⟨b, 0, none⟩ (.int .i64 k')) b k' vk vn vs s p := (heap_setCell_same _ _ _ _ _ _ h).trans (by simp)
theorem BxN.setS (h : BxN W b k vk vn vs s p) (s' : ByteArray) : BxN (W.setCell ⟨b, 4, none⟩ (.string s')) b k vk vn vs s' p := (heap_setCell_same _ _ _ _ _ _ h).trans (by simp)
theorem BxN.setV (h : BxN W b k vk vn vs s p) (vk' vn' : Int) (vs' : ByteArray) : BxN (((W.setCell ⟨b, 1, none⟩ (.int .i64 vk')).setCell ⟨b, 2, none⟩ (.int .i64 vn')).setCell ⟨b, 3, none⟩ (.string vs')) b k vk' vn' vs' s p :=
  (heap_setCell_same _ _ _ _ _ _ (heap_setCell_same _ _ _ _ _ _ (heap_setCell_same _ _ _ _ _ _ h))).trans (by simp)
theorem BxN.set8 (h : BxN W b k vk vn vs s p) (k' vk' vn' : Int) (vs' s' : ByteArray) (p' : Nat × Nat) :
    BxN ((((((((W.setCell ⟨b, 0, none⟩ (.int .i64 k')).setCell ⟨b, 1, none⟩ (.int .i64 vk')).setCell ⟨b, 2, none⟩ (.int .i64 vn')).setCell ⟨b, 3, none⟩ (.string vs')).setCell ⟨b, 4, none⟩ (.string s')).setCell ⟨b, 5, none⟩ (.slice none 0 0)).setCell ⟨b, 6, none⟩ (.int .i64 (p'.1 : Int))).setCell ⟨b, 7, none⟩ (.int .i64 (p'.2 : Int))) b k' vk' vn' vs' s' p' :=
  (heap_setCell_same _ _ _ _ _ _ (heap_setCell_same _ _ _ _ _ _ (heap_setCell_same _ _ _ _ _ _ (heap_setCell_same _ _ _ _ _ _ (heap_setCell_same _ _ _ _ _ _ (heap_setCell_same _ _ _ _ _ _ (heap_setCell_same _ _ _ _ _ _ (heap_setCell_same _ _ _ _ _ _ h)))))))).trans (by simp)
theorem below_set8 {B : Nat} (hb : B ≤ b) (u0 u1 u2 u3 u4 u5 u6 u7 : Value) :
    Below B W ((((((((W.setCell ⟨b, 0, none⟩ u0).setCell ⟨b, 1, none⟩ u1).setCell ⟨b, 2, none⟩ u2).setCell ⟨b, 3, none⟩ u3).setCell ⟨b, 4, none⟩ u4).setCell ⟨b, 5, none⟩ u5).setCell ⟨b, 6, none⟩ u6).setCell ⟨b, 7, none⟩ u7) :=
  (((((((((Below.refl B W).setCell (p := ⟨b, 0, none⟩) hb _).setCell (p := ⟨b, 1, none⟩) hb _).setCell (p := ⟨b, 2, none⟩) hb _).setCell (p := ⟨b, 3, none⟩) hb _).setCell (p := ⟨b, 4, none⟩) hb _).setCell (p := ⟨b, 5, none⟩) hb _).setCell (p := ⟨b, 6, none⟩) hb _).setCell (p := ⟨b, 7, none⟩) hb _)
theorem bxN_new (W : World) (k vk vn : Int) (vs s : ByteArray) (p : Nat × Nat) : BxN (W.alloc (.cells #[.int .i64 k, .int .i64 vk, .int .i64 vn, .string vs, .string s, .slice none 0 0, .int .i64 (p.1 : Int), .int .i64 (p.2 : Int)] 37)) W.heap.size k vk vn vs s p := heap_alloc_new W _
end
/-- the three blocks of nodeOf's call -/
structure NdW (w : World) (k : Int) (s : ByteArray) (p : Nat × Nat) (W : World) : Prop where
  t : BxT W w.heap.size k s p
  r : BxN W (w.heap.size + 1) 0 0 0 ⟨#[]⟩ ⟨#[]⟩ (0, 0)
  n : BxN W (w.heap.size + 2) 0 0 0 ⟨#[]⟩ ⟨#[]⟩ p
  b : Below w.heap.size w W
theorem ndW_new (w : World) (k : Int) (s : ByteArray) (p : Nat × Nat) : NdW w k s p (((w.alloc (.cells #[.int .i64 k, .string s, .int .i64 (p.1 : Int), .int .i64 (p.2 : Int)] 46)).alloc (.cells #[.int .i64 0, .int .i64 0, .int .i64 0, .string ⟨#[]⟩, .string ⟨#[]⟩, .slice none 0 0, .int .i64 0, .int .i64 0] 37)).alloc (.cells #[.int .i64 0, .int .i64 0, .int .i64 0, .string ⟨#[]⟩, .string ⟨#[]⟩, .slice none 0 0, .int .i64 (p.1 : Int), .int .i64 (p.2 : Int)] 37)) := by
  have h1 := bxT_new w k s p
  obtain ⟨W1, hW1⟩ : ∃ W1, w.alloc (.cells #[.int .i64 k, .string s, .int .i64 (p.1 : Int), .int .i64 (p.2 : Int)] 46) = W1 := ⟨_, rfl⟩
  have z1 : W1.heap.size = w.heap.size + 1 := by rw [← hW1]; simp
  have b1 : Below w.heap.size w W1 := by rw [← hW1]; exact (Below.refl _ _).alloc (Nat.le_refl _) _
  rw [hW1] at h1 ⊢
  have h2 := bxN_new W1 0 0 0 ⟨#[]⟩ ⟨#[]⟩ (0, 0)
  have b2 := (Below.refl W1.heap.size W1).alloc (Nat.le_refl _) (.cells #[.int .i64 0, .int .i64 0, .int .i64 0, .string ⟨#[]⟩, .string ⟨#[]⟩, .slice none 0 0, .int .i64 0, .int .i64 0] 37)
  obtain ⟨W2, hW2⟩ : ∃ W2, W1.alloc (.cells #[.int .i64 0, .int .i64 0, .int .i64 0, .string ⟨#[]⟩, .string ⟨#[]⟩, .slice none 0 0, .int .i64 0, .int .i64 0] 37) = W2 := ⟨_, rfl⟩
  have z2 : W2.heap.size = w.heap.size + 2 := by rw [← hW2]; simp [z1]
  replace h2 : BxN W2 W1.heap.size 0 0 0 ⟨#[]⟩ ⟨#[]⟩ (0, 0) := by rw [← hW2]; exact h2
  rw [hW2] at b2 ⊢
  have h3 := bxN_new W2 0 0 0 ⟨#[]⟩ ⟨#[]⟩ p
  have b3 := (Below.refl W2.heap.size W2).alloc (Nat.le_refl _) (.cells #[.int .i64 0, .int .i64 0, .int .i64 0, .string ⟨#[]⟩, .string ⟨#[]⟩, .slice none 0 0, .int .i64 (p.1 : Int), .int .i64 (p.2 : Int)] 37)
  rw [z1] at h2
  rw [z2] at h3
  exact ⟨(h1.next b2).next b3, h2.below b3, h3, b1.trans ((b2.mono (by omega)).trans (b3.mono (by omega)))⟩
set_option maxRecDepth 100000 in
set_option maxHeartbeats 4000000 in
theorem nodeOf_open (x : Tk) (w : World) (hx : TkOk x) (h1 : x.1 = 1) :
    Calls Tryz.prog 54 (encT x) w fun e w' => e = .returned (nodA x) ∧ Below w.heap.size w w' := by
  obtain ⟨k, s, p⟩ := x
  replace h1 : k = 1 := h1
  subst h1
  obtain ⟨c, hc, ho⟩ := hx.2.2.1 rfl
  replace hc : s.data.toList = [c] := hc
  obtain ⟨kc, hkc⟩ := Option.isSome_iff_exists.1 ho
  have hR : nodA (1, s, p) = .tuple #[nodV kc.1 0 0 ⟨#[]⟩ ⟨#[]⟩ p, .bool true] := by
    unfold nodA
    rw [if_pos rfl, hc]
    show Value.tuple #[nodV ((openC c).getD (0, 0)).1 _ _ _ _ _, _] = _
    rw [hkc]
    rfl
  rw [hR]
  have hsz : s.size = 1 := by have h : s.data.toList.length = s.size := Array.length_toList; rw [hc] at h; exact h.symm
  have hpz : 0 < s.size := by omega
  have hs0 : s[0] = c := by
    have : s.data.toList[0]? = some c := by rw [hc]; rfl
    rw [List.getElem?_eq_getElem (by simp; omega)] at this
    exact Option.some.inj this
  have HK : ∀ W, Hid (Calls Tryz.prog 70 #[.int .u8 (c.toNat : Int)] W fun e w' => e = .returned (.int .i64 kc.1) ∧ W = w') := fun W => kindOf_any c kc hkc W
  clear hx hc hR hkc ho
  have HW3 := Lib.hid (ndW_new w 1 s p)
  obtain ⟨W3, hW3⟩ : ∃ W3, ((w.alloc (.cells #[.int .i64 1, .string s, .int .i64 (p.1 : Int), .int .i64 (p.2 : Int)] 46)).alloc (.cells #[.int .i64 0, .int .i64 0, .int .i64 0, .string ⟨#[]⟩, .string ⟨#[]⟩, .slice none 0 0, .int .i64 0, .int .i64 0] 37)).alloc (.cells #[.int .i64 0, .int .i64 0, .int .i64 0, .string ⟨#[]⟩, .string ⟨#[]⟩, .slice none 0 0, .int .i64 (p.1 : Int), .int .i64 (p.2 : Int)] 37) = W3 := ⟨_, rfl⟩
  rw [hW3] at HW3
  have HWE := Lib.hid hW3
  clear hW3
  unfold encT
  go_enter Tryz.func54, Tryz.ntmps54
  go_wp2_with fail
  rw [HWE.out]
  refine (HK W3).out.mono ?_
  rintro e w' ⟨rfl, rfl⟩
  have n0 := HW3.out.n.cell 0
  have n1 := HW3.out.n.cell 1
  have n2 := HW3.out.n.cell 2
  have n3 := HW3.out.n.cell 3
  have n4 := HW3.out.n.cell 4
  have n5 := HW3.out.n.cell 5
  have n6 := HW3.out.n.cell 6
  have n7 := HW3.out.n.cell 7
  have f0 := HW3.out.n.fz 0
  have r0 := HW3.out.r.cell 0
  have r1 := HW3.out.r.cell 1
  have r2 := HW3.out.r.cell 2
  have r3 := HW3.out.r.cell 3
  have r4 := HW3.out.r.cell 4
  have r5 := HW3.out.r.cell 5
  have r6 := HW3.out.r.cell 6
  have r7 := HW3.out.r.cell 7
  have g0 := HW3.out.r.fz 0
  have g1 := HW3.out.r.fz 1
  have g2 := HW3.out.r.fz 2
  have g3 := HW3.out.r.fz 3
  have g4 := HW3.out.r.fz 4
  have g5 := HW3.out.r.fz 5
  have g6 := HW3.out.r.fz 6
  have g7 := HW3.out.r.fz 7
  go_wp2
  clear n0 n1 n2 n3 n4 n5 n6 n7 f0 r0 r1 r2 r3 r4 r5 r6 r7 g0 g1 g2 g3 g4 g5 g6 g7
  obtain ⟨W4, hW4⟩ : ∃ W4, W3.setCell ⟨w.heap.size + 1 + 1, 0, none⟩ (.int .i64 kc.1) = W4 := ⟨_, rfl⟩
  have HR4 : Hid (BxN W4 (w.heap.size + 1) 0 0 0 ⟨#[]⟩ ⟨#[]⟩ (0, 0)) := by rw [← hW4]; exact (Below.heap_setCell _ _ _ _ (show w.heap.size + 1 ≠ w.heap.size + 1 + 1 by omega)).trans HW3.out.r
  have HB4 : Hid (Below w.heap.size w W4) := by rw [← hW4]; exact HW3.out.b.setCell (p := ⟨w.heap.size + 1 + 1, 0, none⟩) (by show w.heap.size ≤ w.heap.size + 1 + 1; omega) _
  rw [hW4]
  clear hW4
  have HR5 := Lib.hid (HR4.out.set8 kc.1 0 0 ⟨#[]⟩ ⟨#[]⟩ p)
  have HB5 := Lib.hid (HB4.out.trans (below_set8 (W := W4) (b := w.heap.size + 1) (B := w.heap.size) (by omega) (.int .i64 kc.1) (.int .i64 0) (.int .i64 0) (.string ⟨#[]⟩) (.string ⟨#[]⟩) (.slice none 0 0) (.int .i64 (p.1 : Int)) (.int .i64 (p.2 : Int))))
  obtain ⟨W5, hW5⟩ : ∃ W5, (((((((W4.setCell ⟨w.heap.size + 1, 0, none⟩ (.int .i64 kc.1)).setCell ⟨w.heap.size + 1, 1, none⟩ (.int .i64 0)).setCell ⟨w.heap.size + 1, 2, none⟩ (.int .i64 0)).setCell ⟨w.heap.size + 1, 3, none⟩ (.string ⟨#[]⟩)).setCell ⟨w.heap.size + 1, 4, none⟩ (.string ⟨#[]⟩)).setCell ⟨w.heap.size + 1, 5, none⟩ (.slice none 0 0)).setCell ⟨w.heap.size + 1, 6, none⟩ (.int .i64 (p.1 : Int))).setCell ⟨w.heap.size + 1, 7, none⟩ (.int .i64 (p.2 : Int)) = W5 := ⟨_, rfl⟩
  rw [hW5] at HR5 HB5 ⊢
  clear hW5
  refine bodyPost_ret (v := .tuple #[nodV kc.1 0 0 ⟨#[]⟩ ⟨#[]⟩ p, .bool true]) ?_ rfl ⟨rfl, HB5.out⟩
  rw [results_cell_tmp rfl]
  have r0 := HR5.out.cell 0
  have r1 := HR5.out.cell 1
  have r2 := HR5.out.cell 2
  have r3 := HR5.out.cell 3
  have r4 := HR5.out.cell 4
  have r5 := HR5.out.cell 5
  have r6 := HR5.out.cell 6
  have r7 := HR5.out.cell 7
  unfold nodV
  go_simp
theorem NdW.next {w W W' : World} {k : Int} {s : ByteArray} {p : Nat × Nat} (h : NdW w k s p W) (hb : Below W.heap.size W W') : NdW w k s p W' :=
  ⟨h.t.next hb, h.r.below hb, h.n.below hb, h.b.trans (hb.mono h.b.size)⟩
set_option maxRecDepth 100000 in
set_option maxHeartbeats 4000000 in
theorem nodeOf_word (x : Tk) (w : World) (hx : TkOk x) (h0 : x.1 = 0) (herr : Errs w) (htab : Tab w) :
    Calls Tryz.prog 54 (encT x) w fun e w' => e = .returned (nodA x) ∧ Below w.heap.size w w' := by
  obtain ⟨k, s, p⟩ := x
  replace h0 : k = 0 := h0
  subst h0
  have hss : s.size ≤ 50000 := hx.2.1
  have HR : Hid (nodA (0, s, p) = match pvL s.data.toList with
    | some v => .tuple #[nodV 1 v.1 v.2.1 ⟨v.2.2.toArray⟩ ⟨#[]⟩ p, .bool true]
    | none => .tuple #[nodV 2 0 0 ⟨#[]⟩ s p, .bool (namP s.data.toList)]) := by
    show (if (0 : Int) = 1 then _ else _) = _
    rw [if_neg (by decide)]
  clear hx
  have HW3 := Lib.hid (ndW_new w 0 s p)
  obtain ⟨W3, hW3⟩ : ∃ W3, ((w.alloc (.cells #[.int .i64 0, .string s, .int .i64 (p.1 : Int), .int .i64 (p.2 : Int)] 46)).alloc (.cells #[.int .i64 0, .int .i64 0, .int .i64 0, .string ⟨#[]⟩, .string ⟨#[]⟩, .slice none 0 0, .int .i64 0, .int .i64 0] 37)).alloc (.cells #[.int .i64 0, .int .i64 0, .int .i64 0, .string ⟨#[]⟩, .string ⟨#[]⟩, .slice none 0 0, .int .i64 (p.1 : Int), .int .i64 (p.2 : Int)] 37) = W3 := ⟨_, rfl⟩
  rw [hW3] at HW3
  have HWE := Lib.hid hW3
  have HPV := Lib.hid (pv_any s W3 (Nat.le_trans hss (by decide)) (errs_below herr HW3.out.b) (tab_below htab HW3.out.b))
  have HSS := Lib.hid hss
  clear hW3 herr htab hss
  unfold encT
  go_enter Tryz.func54, Tryz.ntmps54
  go_wp2_with fail
  rw [HWE.out]
  refine HPV.out.mono ?_
  rintro e w4 ⟨rfl, hb4⟩
  cases hpv : pvL s.data.toList with
  | some v =>
    rw [hpv] at HR
    have HW4 := Lib.hid ((HW3.out.next hb4).next ((Below.refl _ _).alloc (Nat.le_refl _) (.cells #[.int .i64 v.1, .int .i64 v.2.1, .string ⟨v.2.2.toArray⟩] 35)))
    have HV4 : Hid ((w4.alloc (.cells #[.int .i64 v.1, .int .i64 v.2.1, .string ⟨v.2.2.toArray⟩] 35)).heap[w4.heap.size]? = some (.cells #[.int .i64 v.1, .int .i64 v.2.1, .string ⟨v.2.2.toArray⟩] 35 (0, 0))) := heap_alloc_new w4 _
    obtain ⟨W4, hW4⟩ : ∃ W4, w4.alloc (.cells #[.int .i64 v.1, .int .i64 v.2.1, .string ⟨v.2.2.toArray⟩] 35) = W4 := ⟨_, rfl⟩
    rw [hW4] at HW4 HV4
    have HNE : Hid (w.heap.size + 2 < w4.heap.size) := (HW3.out.next hb4).n.lt
    have v0 : W4.cell? ⟨w4.heap.size, 0, none⟩ = some (.int .i64 v.1) := by have h := HV4.out; simp [World.cell?, h]
    have v1 : W4.cell? ⟨w4.heap.size, 1, none⟩ = some (.int .i64 v.2.1) := by have h := HV4.out; simp [World.cell?, h]
    have v2 : W4.cell? ⟨w4.heap.size, 2, none⟩ = some (.string ⟨v.2.2.toArray⟩) := by have h := HV4.out; simp [World.cell?, h]
    have n0 := HW4.out.n.cell 0
    have n1 := HW4.out.n.cell 1
    have n2 := HW4.out.n.cell 2
    have n3 := HW4.out.n.cell 3
    have n4 := HW4.out.n.cell 4
    have n5 := HW4.out.n.cell 5
    have n6 := HW4.out.n.cell 6
    have n7 := HW4.out.n.cell 7
    have f0 := HW4.out.n.fz 0
    have f1 := HW4.out.n.fz 1
    have f2 := HW4.out.n.fz 2
    have f3 := HW4.out.n.fz 3
    have f4 := HW4.out.n.fz 4
    clear hb4 hpv
    unfold pvV
    have hlt5 := HNE.out
    have hne1 : (w4.heap.size == w.heap.size + 1 + 1) = false := beq_eq_false_iff_ne.2 (by omega)
    have hne2 : (w.heap.size + 1 + 1 == w4.heap.size) = false := beq_eq_false_iff_ne.2 (by omega)
    have hne3 : ¬ w4.heap.size = w.heap.size + 1 + 1 := by omega
    have hne4 : ¬ w.heap.size + 1 + 1 = w4.heap.size := by omega
    go_wp2_with fail
    go_region
    obtain ⟨W5, hW5⟩ : ∃ W5, ((((W4.setCell ⟨w.heap.size + 1 + 1, 0, none⟩ (.int .i64 1)).setCell ⟨w.heap.size + 1 + 1, 1, none⟩ (.int .i64 v.1)).setCell ⟨w.heap.size + 1 + 1, 2, none⟩ (.int .i64 v.2.1)).setCell ⟨w.heap.size + 1 + 1, 3, none⟩ (.string ⟨v.2.2.toArray⟩)).drew = W5 := ⟨_, rfl⟩
    have HN5 : Hid (BxN W5 (w.heap.size + 1 + 1) 1 v.1 v.2.1 ⟨v.2.2.toArray⟩ ⟨#[]⟩ p) := by rw [← hW5]; exact (HW4.out.n.setK 1).setV v.1 v.2.1 ⟨v.2.2.toArray⟩
    have HR5 : Hid (BxN W5 (w.heap.size + 1) 0 0 0 ⟨#[]⟩ ⟨#[]⟩ (0, 0)) := by
      rw [← hW5]
      have ne : w.heap.size + 1 ≠ w.heap.size + 1 + 1 := by omega
      exact (Below.heap_setCell _ _ _ _ ne).trans ((Below.heap_setCell _ _ _ _ ne).trans ((Below.heap_setCell _ _ _ _ ne).trans ((Below.heap_setCell _ _ _ _ ne).trans HW4.out.r)))
    have HB5 : Hid (Below w.heap.size w W5) := by
      rw [← hW5]
      have le : w.heap.size ≤ w.heap.size + 1 + 1 := by omega
      exact ((((HW4.out.b.setCell (p := ⟨_, 0, none⟩) le _).setCell (p := ⟨_, 1, none⟩) le _).setCell (p := ⟨_, 2, none⟩) le _).setCell (p := ⟨_, 3, none⟩) le _).drew
    rw [hW5]
    clear hW5 hW4 v0 v1 v2 n0 n1 n2 n3 n4 n5 n6 n7 f0 f1 f2 f3 f4 hlt5 hne1 hne2 hne3 hne4
    have n0 := HN5.out.cell 0
    have n1 := HN5.out.cell 1
    have n2 := HN5.out.cell 2
    have n3 := HN5.out.cell 3
    have n4 := HN5.out.cell 4
    have n5 := HN5.out.cell 5
    have n6 := HN5.out.cell 6
    have n7 := HN5.out.cell 7
    have r0 := HR5.out.cell 0
    have r1 := HR5.out.cell 1
    have r2 := HR5.out.cell 2
    have r3 := HR5.out.cell 3
    have r4 := HR5.out.cell 4
    have r5 := HR5.out.cell 5
    have r6 := HR5.out.cell 6
    have r7 := HR5.out.cell 7
    have g0 := HR5.out.fz 0
    have g1 := HR5.out.fz 1
    have g2 := HR5.out.fz 2
    have g3 := HR5.out.fz 3
    have g4 := HR5.out.fz 4
    have g5 := HR5.out.fz 5
    have g6 := HR5.out.fz 6
    have g7 := HR5.out.fz 7
    go_wp2
    clear n0 r0 g0 n1 r1 g1 n2 r2 g2 n3 r3 g3 n4 r4 g4 n5 r5 g5 n6 r6 g6 n7 r7 g7
    have HR6 := Lib.hid (HR5.out.set8 1 v.1 v.2.1 ⟨v.2.2.toArray⟩ ⟨#[]⟩ p)
    have HB6 := Lib.hid (HB5.out.trans (below_set8 (W := W5) (b := w.heap.size + 1) (B := w.heap.size) (by omega) (.int .i64 1) (.int .i64 v.1) (.int .i64 v.2.1) (.string ⟨v.2.2.toArray⟩) (.string ⟨#[]⟩) (.slice none 0 0) (.int .i64 (p.1 : Int)) (.int .i64 (p.2 : Int))))
    obtain ⟨W6, hW6⟩ : ∃ W6, (((((((W5.setCell ⟨w.heap.size + 1, 0, none⟩ (.int .i64 1)).setCell ⟨w.heap.size + 1, 1, none⟩ (.int .i64 v.1)).setCell ⟨w.heap.size + 1, 2, none⟩ (.int .i64 v.2.1)).setCell ⟨w.heap.size + 1, 3, none⟩ (.string ⟨v.2.2.toArray⟩)).setCell ⟨w.heap.size + 1, 4, none⟩ (.string ⟨#[]⟩)).setCell ⟨w.heap.size + 1, 5, none⟩ (.slice none 0 0)).setCell ⟨w.heap.size + 1, 6, none⟩ (.int .i64 (p.1 : Int))).setCell ⟨w.heap.size + 1, 7, none⟩ (.int .i64 (p.2 : Int)) = W6 := ⟨_, rfl⟩
    rw [hW6] at HR6 HB6 ⊢
    clear hW6
    refine bodyPost_ret (v := .tuple #[nodV 1 v.1 v.2.1 ⟨v.2.2.toArray⟩ ⟨#[]⟩ p, .bool true]) ?_ rfl ⟨by rw [HR.out], HB6.out⟩
    rw [results_cell_tmp rfl]
    have r0 := HR6.out.cell 0
    have r1 := HR6.out.cell 1
    have r2 := HR6.out.cell 2
    have r3 := HR6.out.cell 3
    have r4 := HR6.out.cell 4
    have r5 := HR6.out.cell 5
    have r6 := HR6.out.cell 6
    have r7 := HR6.out.cell 7
    unfold nodV
    go_simp
  | none =>
    rw [hpv] at HR
    have HW4 := Lib.hid ((HW3.out.next hb4).next ((Below.refl _ _).alloc (Nat.le_refl _) (.cells #[.int .i64 0, .int .i64 0, .string ⟨#[]⟩] 35)))
    have t1 := HW4.out.t.cell 1
    obtain ⟨W4, hW4⟩ : ∃ W4, w4.alloc (.cells #[.int .i64 0, .int .i64 0, .string ⟨#[]⟩] 35) = W4 := ⟨_, rfl⟩
    rw [hW4] at HW4
    have HWE4 := Lib.hid hW4
    clear hb4 hpv hW4
    unfold pvV
    have HCL := Lib.hid (cloneS_str s W4 (by have := HSS.out; omega))
    go_wp2_with fail
    rw [HWE4.out]
    refine HCL.out.mono ?_
    rintro e w6 ⟨rfl, hb6⟩
    have HW6 := Lib.hid (HW4.out.next hb6)
    clear hb6 t1 HCL HWE4
    have n0 := HW6.out.n.cell 0
    have n4 := HW6.out.n.cell 4
    have f0 := HW6.out.n.fz 0
    have f4 := HW6.out.n.fz 4
    go_wp2_with fail
    obtain ⟨W5, hW5⟩ : ∃ W5, (w6.setCell ⟨w.heap.size + 1 + 1, 0, none⟩ (.int .i64 2)).setCell ⟨w.heap.size + 1 + 1, 4, none⟩ (.string s) = W5 := ⟨_, rfl⟩
    have HN5 : Hid (BxN W5 (w.heap.size + 1 + 1) 2 0 0 ⟨#[]⟩ s p) := by rw [← hW5]; exact (HW6.out.n.setK 2).setS s
    have HR5 : Hid (BxN W5 (w.heap.size + 1) 0 0 0 ⟨#[]⟩ ⟨#[]⟩ (0, 0)) := by
      rw [← hW5]
      have ne : w.heap.size + 1 ≠ w.heap.size + 1 + 1 := by omega
      exact (Below.heap_setCell _ _ _ _ ne).trans ((Below.heap_setCell _ _ _ _ ne).trans HW6.out.r)
    have HT5 : Hid (BxT W5 w.heap.size 0 s p) := by
      rw [← hW5]
      have ne : w.heap.size ≠ w.heap.size + 1 + 1 := by omega
      exact (Below.heap_setCell _ _ _ _ ne).trans ((Below.heap_setCell _ _ _ _ ne).trans HW6.out.t)
    have HB5 : Hid (Below w.heap.size w W5) := by
      rw [← hW5]
      have le : w.heap.size ≤ w.heap.size + 1 + 1 := by omega
      exact (HW6.out.b.setCell (p := ⟨_, 0, none⟩) le _).setCell (p := ⟨_, 4, none⟩) le _
    rw [hW5]
    clear hW5 n0 n4 f0 f4
    have HNA : ∀ X, Hid (s.size ≤ 60000 → Calls Tryz.prog 11 #[.string s] X fun e w' => e = .returned (.bool (namP s.data.toList)) ∧ Below X.heap.size X w') := fun X h => named_any s X h
    have HSZ : Hid (s.size ≤ 60000) := by have := HSS.out; show _ ≤ _; omega
    have HN5d : Hid (BxN W5.drew (w.heap.size + 1 + 1) 2 0 0 ⟨#[]⟩ s p) := HN5.out
    have HR5d : Hid (BxN W5.drew (w.heap.size + 1) 0 0 0 ⟨#[]⟩ ⟨#[]⟩ (0, 0)) := HR5.out
    have HB5d : Hid (Below w.heap.size w W5.drew) := HB5.out.drew
    have t1 := HT5.out.cell 1
    have n0 := HN5.out.cell 0
    have n1 := HN5.out.cell 1
    have n2 := HN5.out.cell 2
    have n3 := HN5.out.cell 3
    have n4 := HN5.out.cell 4
    have n5 := HN5.out.cell 5
    have n6 := HN5.out.cell 6
    have n7 := HN5.out.cell 7
    go_region_with (go_at_call 11; refine ((HNA _).out HSZ.out).mono ?_; rintro e w9 ⟨rfl, hb9⟩; have HN9 : Hid (BxN w9 (w.heap.size + 1 + 1) 2 0 0 ⟨#[]⟩ s p) := HN5d.out.below hb9; have HR9 : Hid (BxN w9 (w.heap.size + 1) 0 0 0 ⟨#[]⟩ ⟨#[]⟩ (0, 0)) := HR5d.out.below hb9; have HB9 : Hid (Below w.heap.size w w9) := HB5d.out.trans (hb9.mono HB5d.out.size); clear hb9 n0 n1 n2 n3 n4 n5 n6 n7; have n0 := HN9.out.cell 0; have n1 := HN9.out.cell 1; have n2 := HN9.out.cell 2; have n3 := HN9.out.cell 3; have n4 := HN9.out.cell 4; have n5 := HN9.out.cell 5; have n6 := HN9.out.cell 6; have n7 := HN9.out.cell 7; have r0 := HR9.out.cell 0; have r1 := HR9.out.cell 1; have r2 := HR9.out.cell 2; have r3 := HR9.out.cell 3; have r4 := HR9.out.cell 4; have r5 := HR9.out.cell 5; have r6 := HR9.out.cell 6; have r7 := HR9.out.cell 7; have g0 := HR9.out.fz 0; have g1 := HR9.out.fz 1; have g2 := HR9.out.fz 2; have g3 := HR9.out.fz 3; have g4 := HR9.out.fz 4; have g5 := HR9.out.fz 5; have g6 := HR9.out.fz 6; have g7 := HR9.out.fz 7)
    all_goals
      have HR6 := Lib.hid (HR9.out.set8 2 0 0 ⟨#[]⟩ s p)
      have HB6 := Lib.hid (HB9.out.trans (below_set8 (W := w9) (b := w.heap.size + 1) (B := w.heap.size) (by omega) (.int .i64 2) (.int .i64 0) (.int .i64 0) (.string ⟨#[]⟩) (.string s) (.slice none 0 0) (.int .i64 (p.1 : Int)) (.int .i64 (p.2 : Int))))
      obtain ⟨W6, hW6⟩ : ∃ W6, (((((((w9.setCell ⟨w.heap.size + 1, 0, none⟩ (.int .i64 2)).setCell ⟨w.heap.size + 1, 1, none⟩ (.int .i64 0)).setCell ⟨w.heap.size + 1, 2, none⟩ (.int .i64 0)).setCell ⟨w.heap.size + 1, 3, none⟩ (.string ⟨#[]⟩)).setCell ⟨w.heap.size + 1, 4, none⟩ (.string s)).setCell ⟨w.heap.size + 1, 5, none⟩ (.slice none 0 0)).setCell ⟨w.heap.size + 1, 6, none⟩ (.int .i64 (p.1 : Int))).setCell ⟨w.heap.size + 1, 7, none⟩ (.int .i64 (p.2 : Int)) = W6 := ⟨_, rfl⟩
      rw [hW6] at HR6 HB6
      clear r0 r1 r2 r3 r4 r5 r6 r7 g0 g1 g2 g3 g4 g5 g6 g7 n0 n1 n2 n3 n4 n5 n6 n7
      rw [hW6]
      clear hW6
      go_wp2
      refine bodyPost_ret (v := .tuple #[nodV 2 0 0 ⟨#[]⟩ s p, .bool (namP s.data.toList)]) ?_ rfl ⟨by rw [HR.out], HB6.out⟩
      rw [results_cell_tmp rfl]
      have r0 := HR6.out.cell 0
      have r1 := HR6.out.cell 1
      have r2 := HR6.out.cell 2
      have r3 := HR6.out.cell 3
      have r4 := HR6.out.cell 4
      have r5 := HR6.out.cell 5
      have r6 := HR6.out.cell 6
      have r7 := HR6.out.cell 7
      unfold nodV
      go_simp
end Go.Proofs.YthbighnkohjfnaaGreatDoor

/-
  CONTRACT: begin (the first token of a node).
-/
namespace Go.Proofs.YthbighnkohjfnaaGreatDoor
open Go.RowKit

/-- the node that begins with a token -/
noncomputable def nodeD (x : Tk) : Option Nd :=
  if x.1 = 1 then some (.mk ((openC (x.2.1.data.toList.headD 0)).getD (0, 0)).1 0 0 ⟨#[]⟩ ⟨#[]⟩ [] (x.2.2.1 : Int) (x.2.2.2 : Int))
  else match pvL x.2.1.data.toList with
    | some v => some (.mk 1 v.1 v.2.1 ⟨v.2.2.toArray⟩ ⟨#[]⟩ [] (x.2.2.1 : Int) (x.2.2.2 : Int))
    | none => if namP x.2.1.data.toList then some (.mk 2 0 0 ⟨#[]⟩ x.2.1 [] (x.2.2.1 : Int) (x.2.2.2 : Int)) else none
theorem nodA_is (x : Tk) : ∃ (k vk vn : Int) (vs s : ByteArray) (ok : Bool), nodA x = .tuple #[nodV k vk vn vs s x.2.2, .bool ok] ∧ nodeD x = (if ok then some (.mk k vk vn vs s [] (x.2.2.1 : Int) (x.2.2.2 : Int)) else none) ∧ (x.1 = 1 → ok = true ∧ vk = 0 ∧ vn = 0 ∧ vs = ⟨#[]⟩ ∧ s = ⟨#[]⟩) := by
  unfold nodA nodeD
  by_cases h : x.1 = 1
  · rw [if_pos h, if_pos h]
    exact ⟨_, _, _, _, _, true, rfl, rfl, fun _ => ⟨rfl, rfl, rfl, rfl, rfl⟩⟩
  · rw [if_neg h, if_neg h]
    cases pvL x.2.1.data.toList with
    | some v => exact ⟨_, _, _, _, _, true, rfl, rfl, fun e => absurd e h⟩
    | none => exact ⟨_, _, _, _, _, _, rfl, rfl, fun e => absurd e h⟩
theorem nodeOf_any (x : Tk) (w : World) (hx : TkOk x) (h : x.1 = 0 ∨ x.1 = 1) (herr : Errs w) (htab : Tab w) :
    Calls Tryz.prog 54 (encT x) w fun e w' => e = .returned (nodA x) ∧ Below w.heap.size w w' :=
  h.elim (fun h => nodeOf_word x w hx h herr htab) (fun h => nodeOf_open x w hx h)
theorem RdS.setSize {lo b size t : Nat} {W W' : World} {vd vo : Value} {d : List Ek} {op : List Opn} (h : RdS lo W b vd vo d op size t) (hW : W.setCell ⟨b, 2, none⟩ (.int .i64 ((size : Int) + 1)) = W') : RdS lo W' b vd vo d op (size + 1) t := by
  have hk : KeepNd W W' := by rw [← hW]; exact KeepNd.setBox h.box
  have hbx : W'.heap[b]? = some (.cells #[vd, vo, .int .i64 ((size + 1 : Nat) : Int)] 41 (0, 0)) := by
    rw [← hW, heap_setCell_same _ _ _ _ _ _ h.box, Int.natCast_add]
    rfl
  exact ⟨hbx, h.lv.keep hk, fun e he => (h.dn e he).keepN hk, fun i x hx e he => (h.kd i x hx e he).keepN hk, h.deep, h.dl, h.kl⟩
/-- what begin leaves -/
def BeginEnd (lo b size t : Nat) (done : List Nd) (op : List (Int × (Nat × Nat) × List Nd)) (x : Tk) (w : World) (e : Ending) (w' : World) : Prop :=
  (match nodeD x with
    | none => e = .returned (.bool false)
    | some X => if size = 5000 then e = .returned (.bool false) else e = .returned (.bool true) ∧
        if x.1 = 1 then RdA lo w' b done (op ++ [(X.k, x.2.2, [])]) (size + 1) (t + 1) else RdA lo w' b (putA done op X).1 (putA done op X).2 (size + 1) (t + 1)) ∧ Below lo w w' ∧ KeepTx w w'
/-- a bracket more is open -/
theorem RdS.push {lo b size t : Nat} {w3 w4 w8 : World} {vd vo vo' : Value} {d : List Ek} {o : List Opn} {lE : List Ek} {kc : Int} {p : Nat × Nat} (h : RdS lo w4 b vd vo d o size t) (hlE : o.map Opn.ek = lE) (hd : o.length < 50) (_hw : w3.heap.size ≤ w4.heap.size)
    (hp : PushEnd lo (rowsR vd vo d o) 1 b 1 #[vd, vo, .int .i64 (size : Int)] vo' (lE ++ [(.mk kc 0 0 ⟨#[]⟩ ⟨#[]⟩ [] (p.1 : Int) (p.2 : Int), none, 0)]) w4 w8) : RdS lo w8 b vd vo' d (o ++ [⟨kc, p, [], none, 0⟩]) size (t + 1) := by
  obtain ⟨hl8, hF8, hbx8, _, _⟩ := hp
  have hR : (rowsR vd vo d o).set 1 (vo', lE ++ [(.mk kc 0 0 ⟨#[]⟩ ⟨#[]⟩ [] (p.1 : Int) (p.2 : Int), none, 0)]) ++ [(.slice none 0 0, [])] = rowsR vd vo' d (o ++ [⟨kc, p, [], none, 0⟩]) := by
    show ((vd, d) :: (vo', _) :: o.map (fun x : Opn => (x.v, x.l))) ++ _ = (vd, d) :: (vo', (o ++ [_]).map Opn.ek) :: (o ++ [_]).map (fun x : Opn => (x.v, x.l))
    rw [List.map_append, List.map_append, hlE]
    rfl
  have hl := hl8.more
  rw [hR] at hl
  refine h.turn hbx8 hl (fun g hg => ⟨(hF8 g hg).1, by have := (hF8 g hg).2.more; rw [hR] at this; exact this⟩) (fun e he => .inl he) (fun i y hy e he => ?_) (by rw [List.length_append, List.length_singleton]; omega) (Nat.le_succ_of_le h.dl) (fun y hy => ?_)
  · rcases Nat.lt_or_ge i o.length with hlt | hge
    · rw [List.getElem?_append_left hlt] at hy
      exact .inl ⟨y, hy, he⟩
    · rw [List.getElem?_append_right hge] at hy
      have : y = ⟨kc, p, [], none, 0⟩ := by simpa using List.mem_of_getElem? hy
      subst this
      cases he
  · rcases List.mem_append.1 hy with hy | hy
    · exact Nat.le_succ_of_le (h.kl y hy)
    · obtain rfl : y = ⟨kc, p, [], none, 0⟩ := by simpa using hy
      exact Nat.zero_le _
set_option maxRecDepth 100000 in
set_option maxHeartbeats 4000000 in
theorem begin_any (b : Nat) (done : List Nd) (op : List (Int × (Nat × Nat) × List Nd)) (size t : Nat) (x : Tk) (w0 w : World) (h : RdA w0.heap.size w b done op size t) (hw0 : Below w0.heap.size w0 w) (hlob : w0.heap.size ≤ b) (ht : t ≤ 100000) (hsz : size ≤ 5000) (hx : TkOk x) (hk : x.1 = 0 ∨ x.1 = 1) (hd : x.1 = 1 → op.length < 50) (herr : Errs w0) (htab : Tab w0) :
    Calls Tryz.prog 36 #[.pointer (some ⟨b, 0, none⟩), .agg #[.int .i64 x.1, .string x.2.1, .int .i64 (x.2.2.1 : Int), .int .i64 (x.2.2.2 : Int)]] w fun e w' => BeginEnd w0.heap.size b size t done op x w e w' := by
  obtain ⟨vd, vo, d, o, hr, rfl, rfl⟩ := h
  obtain ⟨k, vk, vn, vs, s, ok, hA, hD, hO⟩ := nodA_is x
  have hn := fun W (hW : Below w.heap.size w W) => nodeOf_any x W hx hk (errs_below herr (hw0.trans (hW.mono hw0.size))) (tab_below htab (hw0.trans (hW.mono hw0.size)))
  rw [hA] at hn
  unfold nodV at hn
  obtain ⟨tk, ts, p⟩ := x
  simp only at hk hd hO hn
  rw [List.length_map] at hd
  have hb1 : Below w.heap.size w (w.alloc (.cells #[.int .i64 tk, .string ts, .int .i64 (p.1 : Int), .int .i64 (p.2 : Int)] 46)) := (Below.refl _ _).alloc (Nat.le_refl _) _
  have hT1 := bxT_new w tk ts p
  have x0 := hT1.cell 0
  have x1 := hT1.cell 1
  have x2 := hT1.cell 2
  have x3 := hT1.cell 3
  have HR := Lib.hid hr
  have HB1 := Lib.hid hb1
  have HT1 := Lib.hid hT1
  have HN := Lib.hid (hn _ hb1)
  have HD := Lib.hid hD
  have HO := Lib.hid hO
  have HW0 := Lib.hid hw0
  clear hr hb1 hT1 hn hA hD hx hO hw0 herr htab
  go_enter Tryz.func36, Tryz.ntmps36
  go_wp2_with fail
  clear x0 x1 x2 x3
  obtain ⟨w1, hw1⟩ : ∃ w1, w.alloc (.cells #[.int .i64 tk, .string ts, .int .i64 (p.1 : Int), .int .i64 (p.2 : Int)] 46) = w1 := ⟨_, rfl⟩
  rw [hw1] at HB1 HT1 HN ⊢
  clear hw1
  refine HN.out.mono ?_
  rintro e w2 ⟨rfl, hb2⟩
  have hb3 : Below w2.heap.size w2 (w2.alloc (.cells #[.int .i64 k, .int .i64 vk, .int .i64 vn, .string vs, .string s, .slice none 0 0, .int .i64 (p.1 : Int), .int .i64 (p.2 : Int)] 37)) := (Below.refl _ _).alloc (Nat.le_refl _) _
  have HB3 := Lib.hid (HB1.out.trans ((hb2.mono HB1.out.size).trans (hb3.mono (Nat.le_trans HB1.out.size hb2.size))))
  have HT3 : Hid (BxT _ w.heap.size tk ts p) := (HT1.out.next hb2).next hb3
  have HN3 : Hid ((w2.alloc (.cells #[.int .i64 k, .int .i64 vk, .int .i64 vn, .string vs, .string s, .slice none 0 0, .int .i64 (p.1 : Int), .int .i64 (p.2 : Int)] 37)).heap[w2.heap.size]? = some (.cells #[.int .i64 k, .int .i64 vk, .int .i64 vn, .string vs, .string s, .slice none 0 0, .int .i64 (p.1 : Int), .int .i64 (p.2 : Int)] 37 (0, 0))) := heap_alloc_new w2 _
  have HWN : Hid (w.heap.size < w2.heap.size) := Nat.lt_of_lt_of_le HT1.out.lt hb2.size
  have c2 := (HR.out.next HB3.out).cell 2
  clear hb2 hb3
  cases ok with
  | false =>
    go_wp2
    go_ret
    unfold BeginEnd
    rw [HD.out]
    exact ⟨rfl, HB3.out.mono HW0.out.size, KeepTx.of_below HB3.out⟩
  | true =>
    by_cases h5 : size = 5000
    · subst h5
      go_wp2
      go_ret
      unfold BeginEnd
      rw [HD.out]
      refine ⟨?_, HB3.out.mono HW0.out.size, KeepTx.of_below HB3.out⟩
      simp
    · have hsb : ((size : Int) == 5000) = false := beq_eq_false_iff_ne.2 (by omega)
      have f2 := (HR.out.next HB3.out).fz 2
      have hwr : IntKind.i64.wrap ((size : Int) + 1) = (size : Int) + 1 := IntWalk.i64_in _ (by omega)
      go_upto_region 5 with (fail)
      obtain ⟨w3, hw3⟩ : ∃ w3, w2.alloc (.cells #[.int .i64 k, .int .i64 vk, .int .i64 vn, .string vs, .string s, .slice none 0 0, .int .i64 (p.1 : Int), .int .i64 (p.2 : Int)] 37) = w3 := ⟨_, rfl⟩
      rw [hw3] at HB3 HT3 HN3 c2 f2 ⊢
      clear hw3
      obtain ⟨w5, hw5⟩ : ∃ w5, w3.setCell ⟨b, 2, none⟩ (.int .i64 ((size : Int) + 1)) = w5 := ⟨_, rfl⟩
      have hr3 := HR.out.next HB3.out
      have HR5 := Lib.hid (hr3.setSize hw5)
      have hk5 : KeepTx w3 w5 := by rw [← hw5]; exact KeepTx.setBox hr3.box
      have hnd5 : KeepNd w3 w5 := by rw [← hw5]; exact KeepNd.setBox hr3.box
      have hbl5 : Below w0.heap.size w3 w5 := by rw [← hw5]; exact (Below.refl _ w3).setCell (p := ⟨b, 2, none⟩) hlob _
      have HN5 : Hid (w5.heap[w2.heap.size]? = _) := (hnd5.same _ _ HN3.out).trans HN3.out
      have HT5 : Hid (BxT w5 w.heap.size tk ts p) := (hk5.same _ _ _ HT3.out (by decide) (by decide)).trans HT3.out
      have HB5 := Lib.hid ((HB3.out.mono HW0.out.size).trans hbl5)
      have HK5 := Lib.hid ((KeepTx.of_below HB3.out).trans hk5)
      have HSZ : Hid (w0.heap.size ≤ w5.heap.size ∧ w.heap.size ≤ w5.heap.size) := ⟨Nat.le_trans HW0.out.size HB5.out.size, HB5.out.size⟩
      have HNZ : Hid (w2.heap.size < w5.heap.size) := (Array.getElem?_eq_some_iff.1 HN5.out).1
      rw [hw5]
      clear hw5 hr3 hk5 hnd5 hbl5 c2 f2 hwr hsb
      have y0 := HT5.out.cell 0
      have n0 := nod_cell HN5.out 0
      have n1 := nod_cell HN5.out 1
      have n2 := nod_cell HN5.out 2
      have n3 := nod_cell HN5.out 3
      have n4 := nod_cell HN5.out 4
      have n5 := nod_cell HN5.out 5
      have n6 := nod_cell HN5.out 6
      have n7 := nod_cell HN5.out 7
      rcases hk with rfl | rfl
      · have HA := Lib.hid (add_any w0.heap.size b vd vo d o (size + 1) t (.mk k vk vn vs s [] (p.1 : Int) (p.2 : Int)) none 0 w5 HR5.out (SlN.nil _ _ _ _) HSZ.out.1 hlob ht)
        go_wp2_with fail
        refine HA.out.mono ?_
        rintro e w6 ⟨rfl, h6, hb6, hk6⟩
        go_wp2
        go_ret
        unfold BeginEnd
        rw [HD.out]
        refine ⟨?_, HB5.out.trans hb6, HK5.out.trans hk6⟩
        simp only [if_true, if_neg h5]
        exact ⟨rfl, h6⟩
      · obtain ⟨_, rfl, rfl, rfl, rfl⟩ := HO.out rfl
        obtain ⟨lE, hlE⟩ : ∃ lE, o.map Opn.ek = lE := ⟨_, rfl⟩
        have hrow : w5.ownsRow w0.heap.size 37 8 vo lE.length (catN lE) := by rw [← hlE]; exact HR5.out.lv.own 1 _ rfl
        obtain ⟨Ao, co, rfl⟩ : ∃ Ao co, vo = .slice Ao lE.length co := by
          rcases hrow.2 with ⟨rfl, e⟩ | ⟨g, cap, _, rfl, _⟩
          · exact ⟨none, 0, by rw [e]⟩
          · exact ⟨_, _, rfl⟩
        obtain ⟨kc, hkc⟩ : ∃ kc, kc = k := ⟨_, rfl⟩
        subst hkc
        go_wp2_with fail
        have HS2 := HN5
        obtain ⟨w3, hw3⟩ : ∃ w3, w5.drew = w3 := ⟨_, rfl⟩
        have hb3 : Below w5.heap.size w5 w3 := by rw [← hw3]; exact (Below.refl _ _).drew
        have H3 := Lib.hid (HR5.out.next hb3)
        have HL3 := Lib.hid H3.out.lv
        have HX3 := Lib.hid H3.out.box
        have HB3 := Lib.hid hb3
        have HNR : Hid (some w2.heap.size ≠ (Value.slice Ao lE.length co).ownBlock) := fun e => by
          have h1 := (hrow.lt _ e.symm).2
          have h2 := HR.out.rowO.lt _ e.symm
          have h3 := HWN.out
          omega
        have HNB : Hid (w2.heap.size ≠ b) := fun e => by
          have h1 := HR.out.lt
          have h3 := HWN.out
          omega
        have HLE : Hid (lE.length < 50) := by
          rw [← hlE, List.length_map]
          exact hd (by first | rfl | trivial)
        have HLO : Hid (w0.heap.size ≤ w3.heap.size) := Nat.le_trans HSZ.out.1 hb3.size
        clear hb3 hrow n0 n1 n2 n3 n4 n5 n6 n7 y0
        refine wp_region_held_drew (S := (fun W => W.heap[w2.heap.size]? = some (.cells #[.int .i64 kc, .int .i64 0, .int .i64 0, .string ⟨#[]⟩, .string ⟨#[]⟩, .slice none 0 0, .int .i64 (p.1 : Int), .int .i64 (p.2 : Int)] 37 (0, 0)))) (by kernel_rfl) HS2.out (fun hHeld => ?_)
        rw [hw3] at hHeld ⊢
        clear hw3
        refine takeV 0 (some 31) ((.pointer (some ⟨b, 0, none⟩))) rfl rfl (by kernel_rfl) (by kernel_rfl) (by kernel_rfl) (fun _ _ _ h => h) (by rfl) (by (intro _w _hSw; (try dsimp only at _hSw); go_simp)) (by assumption) ?_
        simp only [Act.put, List.setIfInBounds_toArray, List.set_cons_zero, List.set_cons_succ]
        refine takeV 1 (some 32) ((.pointer (some ⟨b, 0, none⟩))) rfl rfl (by kernel_rfl) (by kernel_rfl) (by kernel_rfl) (fun _ _ _ h => h) (by rfl) (by (intro _w _hSw; (try dsimp only at _hSw); go_simp)) (by assumption) ?_
        simp only [Act.put, List.setIfInBounds_toArray, List.set_cons_zero, List.set_cons_succ]
        refine takeV 2 (some 33) ((.pointer (some ⟨b, 1, none⟩))) rfl rfl (by kernel_rfl) (by kernel_rfl) (by kernel_rfl) (fun _ _ _ h => h) (by rfl) (by (intro _w _hSw; (try dsimp only at _hSw); go_simp)) (by assumption) ?_
        simp only [Act.put, List.setIfInBounds_toArray, List.set_cons_zero, List.set_cons_succ]
        refine takeV 4 (some 35) ((.agg #[.int .i64 kc, .int .i64 0, .int .i64 0, .string ⟨#[]⟩, .string ⟨#[]⟩, .slice none 0 0, .int .i64 (p.1 : Int), .int .i64 (p.2 : Int)])) rfl rfl (by kernel_rfl) (by kernel_rfl) (by kernel_rfl) (fun _ _ _ h => h) (by rfl) (by (intro _w hSw; have n0 := nod_cell hSw 0; have n1 := nod_cell hSw 1; have n2 := nod_cell hSw 2; have n3 := nod_cell hSw 3; have n4 := nod_cell hSw 4; have n5 := nod_cell hSw 5; have n6 := nod_cell hSw 6; have n7 := nod_cell hSw 7; clear hSw; go_simp)) (by assumption) ?_
        simp only [Act.put, List.setIfInBounds_toArray, List.set_cons_zero, List.set_cons_succ]
        have cx := HX3.out
        have cb : w3.cell? ⟨b, 1, none⟩ = some (.slice Ao lE.length co) := by simp [World.cell?, cx]
        have cb2 := (World.cell?_alloc_lt w3 (.cells #[.int .i64 0, .int .i64 0, .int .i64 0, .string ⟨#[]⟩, .string ⟨#[]⟩, .slice none 0 0, .int .i64 0, .int .i64 0] 37) ⟨b, 1, none⟩ (Array.getElem?_eq_some_iff.1 cx).1).trans cb
        clear cx
        refine callVT 3 6 rfl rfl (by kernel_rfl) (by rfl) (by rfl) (fun K1 hK1 => ?_) (fun K1 hK1 => ?_)
        go_simp
        refine hK1.out _ _ hHeld (fun hHeld => ?_)
        clear hK1 K1
        try simp only [Act.put, List.setIfInBounds_toArray, List.set_cons_zero, List.set_cons_succ]
        refine takeV 5 (some 36) ((.int .i64 (lE.length : Int))) rfl rfl (by kernel_rfl) (by kernel_rfl) (by kernel_rfl) (fun _ _ _ h => h) (by rfl) (by (intro _w _hSw; (try dsimp only at _hSw); go_simp)) (by assumption) ?_
        simp only [Act.put, List.setIfInBounds_toArray, List.set_cons_zero, List.set_cons_succ]
        refine callV 6 rfl (by kernel_rfl) (by rfl) (fun K hK => ?_)
        go_simp
        refine hK.out _ _ ((Below.heap_alloc w3 _ _ (Array.getElem?_eq_some_iff.1 hHeld).1).trans hHeld) (fun hHeld => ?_)
        clear hK K
        try simp only [Act.put, List.setIfInBounds_toArray, List.set_cons_zero, List.set_cons_succ]
        rotate_left
        go_simp
        refine hK1.out _ _ ((Below.heap_alloc w3 _ _ (Array.getElem?_eq_some_iff.1 hHeld).1).trans hHeld) (fun hHeld => ?_)
        clear hK1 K1
        try simp only [Act.put, List.setIfInBounds_toArray, List.set_cons_zero, List.set_cons_succ]
        refine callV 3 rfl (by kernel_rfl) (by rfl) (fun K hK => ?_)
        go_simp
        refine hK.out _ _ hHeld (fun hHeld => ?_)
        clear hK K
        try simp only [Act.put, List.setIfInBounds_toArray, List.set_cons_zero, List.set_cons_succ]
        refine takeV 5 (some 36) ((.int .i64 (lE.length : Int))) rfl rfl (by kernel_rfl) (by kernel_rfl) (by kernel_rfl) (fun _ _ _ h => h) (by rfl) (by (intro _w _hSw; (try dsimp only at _hSw); go_simp)) (by assumption) ?_
        simp only [Act.put, List.setIfInBounds_toArray, List.set_cons_zero, List.set_cons_succ]
        all_goals
          clear cb cb2
          have hb4 : Below w3.heap.size w3 (w3.alloc (.cells #[.int .i64 0, .int .i64 0, .int .i64 0, .string ⟨#[]⟩, .string ⟨#[]⟩, .slice none 0 0, .int .i64 0, .int .i64 0] 37)) := (Below.refl _ _).alloc (Nat.le_refl _) _
          have hnw : ∀ j u, (cellsN (.mk 0 0 0 ⟨#[]⟩ ⟨#[]⟩ [] 0 0) (.slice none 0 0))[j]? = some u → (w3.alloc (.cells #[.int .i64 0, .int .i64 0, .int .i64 0, .string ⟨#[]⟩, .string ⟨#[]⟩, .slice none 0 0, .int .i64 0, .int .i64 0] 37)).cell? ((⟨w3.heap.size, 0, none⟩ : Addr).add j) = some u := fun j u hu => litN w3 (.mk 0 0 0 ⟨#[]⟩ ⟨#[]⟩ [] 0 0) none 0 0 j u hu
          obtain ⟨w4, hw4⟩ : ∃ w4, w3.alloc (.cells #[.int .i64 0, .int .i64 0, .int .i64 0, .string ⟨#[]⟩, .string ⟨#[]⟩, .slice none 0 0, .int .i64 0, .int .i64 0] 37) = w4 := ⟨_, rfl⟩
          rw [hw4] at hHeld hb4 hnw ⊢
          clear hw4
          have HL4 := Lib.hid (HL3.out.keep (KeepN.of_below hb4).toKeepNd)
          have HX4 := Lib.hid ((hb4.block b (Array.getElem?_eq_some_iff.1 HX3.out).1).trans HX3.out)
          have HB4 := Lib.hid hb4
          have hro := HL4.out.own 1 _ (show (rowsR vd (.slice Ao lE.length co) d o)[1]? = some (.slice Ao lE.length co, lE) by rw [← hlE]; rfl)
          have nbr : some w2.heap.size ≠ ((.slice Ao lE.length co) : Value).ownBlock := HNR.out
          refine callV 7 rfl (by kernel_rfl) (by rfl) (fun K hK => ?_)
          refine wp_append_node (.tmp 34) (.tmp 37) rfl w0.heap.size (.slice Ao lE.length co) lE rfl hro (.mk 0 0 0 ⟨#[]⟩ ⟨#[]⟩ [] 0 0, none, 0) ⟨w3.heap.size, 0, none⟩ rfl hnw (by have := HLE.out; omega) (Nat.le_trans HLO.out HB4.out.size) ?_
          intro g1 c1 w5 ho5 hg5 hv5
          have hS5 := (hg5.block _ (Array.getElem?_eq_some_iff.1 hHeld).1 nbr).trans hHeld
          have hbr := row_ne hro HX4.out (by decide)
          have HX5 := Lib.hid ((hg5.block b (Array.getElem?_eq_some_iff.1 HX4.out).1 hbr).trans HX4.out)
          have HNG : Hid (some w2.heap.size ≠ some g1) := hv5.elim (fun e => e ▸ nbr) (fun e => e ▸ fun e2 => Nat.lt_irrefl _ ((show w2.heap.size = w4.heap.size by injection e2) ▸ (Array.getElem?_eq_some_iff.1 hHeld).1))
          have HO5 := Lib.hid ho5
          have HG5 := Lib.hid hg5
          have HV5 := Lib.hid hv5
          clear ho5 hg5 hv5 hro nbr hbr hnw hb4
          refine hK.out _ _ hS5 (fun hHeld => ?_)
          clear hK K hS5
          try simp only [Act.put, List.setIfInBounds_toArray]
          have hjx : (lE.length : Int) < (lE.length : Int) + 1 := by omega
          have hj0 : (0 : Int) ≤ (lE.length : Int) := by omega
          refine takeV 8 (some 39) ((.pointer (some ⟨g1, lE.length * 8, none⟩))) rfl rfl (by kernel_rfl) (by kernel_rfl) (by kernel_rfl) (fun _ _ _ h => h) (by rfl) (by (intro _w _hSw; (try dsimp only at _hSw); go_simp)) (by assumption) ?_
          simp only [Act.put]
          refine takeV 10 (some 40) ((.pointer (some ⟨b, 0, none⟩))) rfl rfl (by kernel_rfl) (by kernel_rfl) (by kernel_rfl) (fun _ _ _ h => h) (by rfl) (by (intro _w _hSw; (try dsimp only at _hSw); go_simp)) (by assumption) ?_
          simp only [Act.put]
          refine takeV 11 (some 41) ((.pointer (some ⟨b, 1, none⟩))) rfl rfl (by kernel_rfl) (by kernel_rfl) (by kernel_rfl) (fun _ _ _ h => h) (by rfl) (by (intro _w _hSw; (try dsimp only at _hSw); go_simp)) (by assumption) ?_
          simp only [Act.put]
          refine callVT 9 12 rfl rfl (by kernel_rfl) (by rfl) (by rfl) (fun K1 hK1 => ?_) (fun K1 hK1 => ?_)
          have zz := row_z8 HO5.out
          have z0 := zz.c0
          have z1 := zz.c1
          have z2 := zz.c2
          have z3 := zz.c3
          have z4 := zz.c4
          have z5 := zz.c5
          have z6 := zz.c6
          have z7 := zz.c7
          have y0 := zz.fz (lE.length * 8)
          have y1 := zz.fz (lE.length * 8 + 1)
          have y2 := zz.fz (lE.length * 8 + 2)
          have y3 := zz.fz (lE.length * 8 + 3)
          have y4 := zz.fz (lE.length * 8 + 4)
          have y5 := zz.fz (lE.length * 8 + 5)
          have y6 := zz.fz (lE.length * 8 + 6)
          have y7 := zz.fz (lE.length * 8 + 7)
          clear zz
          go_simp
          clear z0 z1 z2 z3 z4 z5 z6 z7 y0 y1 y2 y3 y4 y5 y6 y7
          obtain ⟨w6, hw6⟩ : ∃ w6, (((((((w5.setCell ⟨g1, lE.length * 8, none⟩ (.int .i64 kc)).setCell ⟨g1, lE.length * 8 + 1, none⟩ (.int .i64 0)).setCell ⟨g1, lE.length * 8 + 2, none⟩ (.int .i64 0)).setCell ⟨g1, lE.length * 8 + 3, none⟩ (.string ⟨#[]⟩)).setCell ⟨g1, lE.length * 8 + 4, none⟩ (.string ⟨#[]⟩)).setCell ⟨g1, lE.length * 8 + 5, none⟩ (.slice none 0 0)).setCell ⟨g1, lE.length * 8 + 6, none⟩ (.int .i64 (p.1 : Int))).setCell ⟨g1, lE.length * 8 + 7, none⟩ (.int .i64 (p.2 : Int)) = w6 := ⟨_, rfl⟩
          rw [hw6]
          obtain ⟨hr6, hg6⟩ := fill8 HO5.out (.mk kc 0 0 ⟨#[]⟩ ⟨#[]⟩ [] (p.1 : Int) (p.2 : Int), none, 0) hw6
          have hX6 := (hg6.block b (Array.getElem?_eq_some_iff.1 HX5.out).1 (row_ne HO5.out HX5.out (by decide))).trans HX5.out
          have hS6 := (hg6.block _ (Array.getElem?_eq_some_iff.1 hHeld).1 HNG.out).trans hHeld
          refine hK1.out _ _ hS6 (fun hHeld => ?_)
          clear hK1 K1 hr6 hg6 hS6
          try simp only [Act.put, List.setIfInBounds_toArray]
          have cb : w6.cell? ⟨b, 1, none⟩ = some (.slice Ao lE.length co) := by simp [World.cell?, hX6]
          have fb : w6.frozen? ⟨b, 1, none⟩ = false := by simp [World.frozen?, hX6]
          refine callV 12 rfl (by kernel_rfl) (by rfl) (fun K hK => ?_)
          go_simp
          obtain ⟨w8, hw8⟩ : ∃ w8, w6.setCell ⟨b, 1, none⟩ (.slice (some ⟨g1, 0, none⟩) (lE.length + 1) c1) = w8 := ⟨_, rfl⟩
          rw [hw8]
          have HP := Lib.hid (push_row (i := 1) (.mk kc 0 0 ⟨#[]⟩ ⟨#[]⟩ [] (p.1 : Int) (p.2 : Int), none, 0) HL4.out (show (rowsR vd (.slice Ao lE.length co) d o)[1]? = some (.slice Ao lE.length co, lE) by rw [← hlE]; rfl) HX4.out HO5.out HG5.out HV5.out (Nat.le_trans HLO.out HB4.out.size) hw6 hw8)
          have hS8 : w8.heap[w2.heap.size]? = some _ := (show w8.heap[w2.heap.size]? = w6.heap[w2.heap.size]? by rw [← hw8]; exact heap_setCell_other w6 ⟨b, 1, none⟩ w2.heap.size _ HNB.out).trans hHeld
          clear hw6 hw8 cb fb hX6
          refine hK.out _ _ hS8 (fun hHeld => ?_)
          clear hK K hS8
          try simp only [Act.put, List.setIfInBounds_toArray]
          refine wpAnyH_done (by kernel_rfl) ?_ _
          rotate_left
          have cx := HX5.out
          have cb : w5.cell? ⟨b, 1, none⟩ = some (.slice Ao lE.length co) := by simp [World.cell?, cx]
          have fb : w5.frozen? ⟨b, 1, none⟩ = false := by simp [World.frozen?, cx]
          go_simp
          obtain ⟨w6, hw6⟩ : ∃ w6, w5.setCell ⟨b, 1, none⟩ (.slice (some ⟨g1, 0, none⟩) (lE.length + 1) c1) = w6 := ⟨_, rfl⟩
          rw [hw6]
          have hk6 : KeepNd w5 w6 := by rw [← hw6]; exact KeepNd.setBox cx
          have hr6 := ownsRow_same HO5.out fun g hgb => by obtain ⟨cs', hcs⟩ := ownsRow_node HO5.out hgb; exact hk6.same g cs' hcs
          have hS6 := (hk6.same _ _ hHeld).trans hHeld
          refine hK1.out _ _ hS6 (fun hHeld => ?_)
          clear hK1 K1 hS6 cb fb cx hk6
          try simp only [Act.put, List.setIfInBounds_toArray]
          have zz := row_z8 hr6
          have z0 := zz.c0
          have z1 := zz.c1
          have z2 := zz.c2
          have z3 := zz.c3
          have z4 := zz.c4
          have z5 := zz.c5
          have z6 := zz.c6
          have z7 := zz.c7
          have y0 := zz.fz (lE.length * 8)
          have y1 := zz.fz (lE.length * 8 + 1)
          have y2 := zz.fz (lE.length * 8 + 2)
          have y3 := zz.fz (lE.length * 8 + 3)
          have y4 := zz.fz (lE.length * 8 + 4)
          have y5 := zz.fz (lE.length * 8 + 5)
          have y6 := zz.fz (lE.length * 8 + 6)
          have y7 := zz.fz (lE.length * 8 + 7)
          clear zz
          refine callV 9 rfl (by kernel_rfl) (by rfl) (fun K hK => ?_)
          go_simp
          clear z0 z1 z2 z3 z4 z5 z6 z7 y0 y1 y2 y3 y4 y5 y6 y7
          obtain ⟨w8, hw8⟩ : ∃ w8, (((((((w6.setCell ⟨g1, lE.length * 8, none⟩ (.int .i64 kc)).setCell ⟨g1, lE.length * 8 + 1, none⟩ (.int .i64 0)).setCell ⟨g1, lE.length * 8 + 2, none⟩ (.int .i64 0)).setCell ⟨g1, lE.length * 8 + 3, none⟩ (.string ⟨#[]⟩)).setCell ⟨g1, lE.length * 8 + 4, none⟩ (.string ⟨#[]⟩)).setCell ⟨g1, lE.length * 8 + 5, none⟩ (.slice none 0 0)).setCell ⟨g1, lE.length * 8 + 6, none⟩ (.int .i64 (p.1 : Int))).setCell ⟨g1, lE.length * 8 + 7, none⟩ (.int .i64 (p.2 : Int)) = w8 := ⟨_, rfl⟩
          rw [hw8]
          obtain ⟨_, hg8⟩ := fill8 hr6 (.mk kc 0 0 ⟨#[]⟩ ⟨#[]⟩ [] (p.1 : Int) (p.2 : Int), none, 0) hw8
          have HP := Lib.hid (push_box (i := 1) (.mk kc 0 0 ⟨#[]⟩ ⟨#[]⟩ [] (p.1 : Int) (p.2 : Int), none, 0) HL4.out (show (rowsR vd (.slice Ao lE.length co) d o)[1]? = some (.slice Ao lE.length co, lE) by rw [← hlE]; rfl) HX4.out HO5.out HG5.out HV5.out (Nat.le_trans HLO.out HB4.out.size) hw6 hw8)
          have hS8 := (hg8.block _ (Array.getElem?_eq_some_iff.1 hHeld).1 HNG.out).trans hHeld
          clear hw6 hw8 hr6 hg8
          refine hK.out _ _ hS8 (fun hHeld => ?_)
          clear hK K hS8
          try simp only [Act.put, List.setIfInBounds_toArray]
          refine wpAnyH_done (by kernel_rfl) ?_ _
        all_goals
          go_wp2
          go_ret
          unfold BeginEnd
          rw [HD.out]
          have hb35 := HB3.out.trans (HB4.out.mono HB3.out.size)
          refine ⟨?_, HB5.out.trans ((hb35.mono HSZ.out.1).trans (HP.out.2.2.2.1 hlob)), HK5.out.trans ((KeepTx.of_below hb35).trans HP.out.2.2.2.2)⟩
          simp only [if_true, if_neg h5]
          refine ⟨rfl, _, _, _, _, (H3.out.next HB4.out).push (w3 := w3) (p := p) (kc := kc) hlE (by have := HLE.out; rw [← hlE, List.length_map] at this; exact this) HB4.out.size HP.out, rfl, ?_⟩
          rw [List.map_append]
          rfl
end Go.Proofs.YthbighnkohjfnaaGreatDoor

/-
  CONTRACT: take (a token, where it stands).
-/
namespace Go.Proofs.YthbighnkohjfnaaGreatDoor
open Go.RowKit

abbrev Ops := List (Int × (Nat × Nat) × List Nd)
/-- the reader, as lists, behind the first token of a node -/
noncomputable def beginA (done : List Nd) (op : Ops) (size : Nat) (x : Tk) : Option (List Nd × Ops × Nat) := match nodeD x with
  | none => none
  | some X => if size = 5000 then none else if x.1 = 1 then some (done, op ++ [(X.k, x.2.2, [])], size + 1) else some ((putA done op X).1, (putA done op X).2, size + 1)
def closeA (done : List Nd) (op : Ops) (size : Nat) (c : UInt8) : Option (List Nd × Ops × Nat) := match op.reverse with
  | [] => none
  | (k, p, l) :: r => if closeV k = (c.toNat : Int) then some ((putA done r.reverse (.mk k 0 0 ⟨#[]⟩ ⟨#[]⟩ l (p.1 : Int) (p.2 : Int))).1, (putA done r.reverse (.mk k 0 0 ⟨#[]⟩ ⟨#[]⟩ l (p.1 : Int) (p.2 : Int))).2, size) else none
noncomputable def takeA (done : List Nd) (op : Ops) (size : Nat) (x : Tk) : Option (List Nd × Ops × Nat) :=
  if x.1 = 1 then (if op.length = 50 then none else beginA done op size x) else if x.1 = 0 then beginA done op size x else if x.1 = 2 then closeA done op size (x.2.1.data.toList.headD 0)
  else if x.1 = 3 then (if op.length = 0 then some (done, op, size) else none) else none
def TakeEnd (lo b t : Nat) (r : Option (List Nd × Ops × Nat)) (w : World) (e : Ending) (w' : World) : Prop :=
  (match r with
    | none => e = .returned (.bool false)
    | some a => e = .returned (.bool true) ∧ RdA lo w' b a.1 a.2.1 a.2.2 (t + 1)) ∧ Below lo w w' ∧ KeepTx w w'
theorem BeginEnd.take {lo b size t : Nat} {done : List Nd} {op : Ops} {x : Tk} {w w' : World} {e : Ending} (h : BeginEnd lo b size t done op x w e w') : TakeEnd lo b t (beginA done op size x) w e w' := by
  obtain ⟨h1, h2⟩ := h
  refine ⟨?_, h2⟩
  unfold beginA
  cases hd : nodeD x with
  | none => rw [hd] at h1; exact h1
  | some X =>
    rw [hd] at h1
    dsimp only at h1 ⊢
    by_cases h5 : size = 5000
    · rw [if_pos h5] at h1 ⊢
      exact h1
    · rw [if_neg h5] at h1 ⊢
      by_cases hx : x.1 = 1
      · rw [if_pos hx] at h1 ⊢
        exact h1
      · rw [if_neg hx] at h1 ⊢
        exact h1
theorem CloseEnd.take {lo b size t : Nat} {done : List Nd} {op : Ops} {c : UInt8} {w w' : World} {e : Ending} (h : CloseEnd lo b size t done op c w e w') : TakeEnd lo b t (closeA done op size c) w e w' := by
  obtain ⟨h1, h2⟩ := h
  refine ⟨?_, h2⟩
  unfold closeA
  split at h1
  · rename_i hr; rw [hr]; exact h1
  · rename_i k p l r hr
    rw [hr]
    dsimp only
    by_cases hc : closeV k = (c.toNat : Int)
    · rw [if_pos hc] at h1 ⊢
      exact h1
    · rw [if_neg hc] at h1 ⊢
      exact h1
theorem TakeEnd.from_ {lo b t : Nat} {r : Option (List Nd × Ops × Nat)} {w w1 w' : World} {e : Ending} (h : TakeEnd lo b t r w1 e w') (hb : Below lo w w1) (hk : KeepTx w w1) : TakeEnd lo b t r w e w' := ⟨h.1, hb.trans h.2.1, hk.trans h.2.2⟩
theorem takeEnd_ret {lo b t : Nat} {r : Option (List Nd × Ops × Nat)} {w w' : World} {e : Ending} (h : TakeEnd lo b t r w e w') : ∃ v, e = .returned (.bool v) ∧ TakeEnd lo b t r w (.returned (.bool v)) w' := by
  cases r with
  | none => obtain ⟨h1, h2⟩ := h; replace h1 : e = .returned (.bool false) := h1; subst h1; exact ⟨false, rfl, rfl, h2⟩
  | some a => obtain ⟨⟨h1, h3⟩, h2⟩ := h; subst h1; exact ⟨true, rfl, ⟨rfl, h3⟩, h2⟩
set_option maxRecDepth 100000 in
set_option maxHeartbeats 4000000 in
theorem take_any (b : Nat) (done : List Nd) (op : Ops) (size t : Nat) (x : Tk) (w0 w : World) (h : RdA w0.heap.size w b done op size t) (hw0 : Below w0.heap.size w0 w) (hlob : w0.heap.size ≤ b) (ht : t ≤ 100000) (hsz : size ≤ 5000) (hx : TkOk x) (herr : Errs w0) (htab : Tab w0) :
    Calls Tryz.prog 19 #[.pointer (some ⟨b, 0, none⟩), .agg #[.int .i64 x.1, .string x.2.1, .int .i64 (x.2.2.1 : Int), .int .i64 (x.2.2.2 : Int)]] w fun e w' => TakeEnd w0.heap.size b t (takeA done op size x) w e w' := by
  have hb1 : Below w.heap.size w (w.alloc (.cells #[.int .i64 x.1, .string x.2.1, .int .i64 (x.2.2.1 : Int), .int .i64 (x.2.2.2 : Int)] 46)) := (Below.refl _ _).alloc (Nat.le_refl _) _
  have hT1 := bxT_new w x.1 x.2.1 x.2.2
  have x0 := hT1.cell 0
  have x1 := hT1.cell 1
  have x2 := hT1.cell 2
  have x3 := hT1.cell 3
  have HB := fun (hk : x.1 = 0 ∨ x.1 = 1) (hd : x.1 = 1 → op.length < 50) => begin_any b done op size t x w0 _ (h.next hb1) (hw0.trans (hb1.mono hw0.size)) hlob ht hsz hx hk hd herr htab
  have hC := fun c => close_any w0.heap.size b done op size t c _ (h.next hb1) (Nat.le_trans hw0.size hb1.size) hlob ht
  have HK1 := Lib.hid (hb1.mono hw0.size)
  have HK2 := Lib.hid (KeepTx.of_below hb1)
  obtain ⟨vd, vo, d, o, hr, rfl, rfl⟩ := h
  obtain ⟨Ao, co, rfl⟩ : ∃ Ao co, vo = .slice Ao o.length co := by
    rcases hr.rowO.2 with ⟨rfl, e⟩ | ⟨g, cap, _, rfl, _⟩
    · exact ⟨none, 0, by rw [e]⟩
    · exact ⟨_, _, rfl⟩
  have hdeep := hr.deep
  have c1 := (hr.next hb1).cell 1
  have HR := Lib.hid hr
  have hN1 := HR.out.next hb1
  have HRA : Hid (RdA w0.heap.size _ b (d.map (·.1)) (o.map Opn.abs) size (t + 1)) := ⟨_, _, _, _, hN1.later (Nat.le_succ t), rfl, rfl⟩
  have hlen : (o.map Opn.abs).length = o.length := List.length_map ..
  rw [hlen] at HB
  obtain ⟨k, s, p⟩ := x
  simp only at x0 x1 x2 x3 HB HRA hN1
  have hx2 := hx.2.2.2.1
  have HX := Lib.hid hx
  simp only at hx2
  have HHB := Lib.hid HB
  have HHC := Lib.hid hC
  have HHX := Lib.hid hx2
  have HLEN := Lib.hid hlen
  clear HB hC hx2 hr hN1 hb1 hT1 hx herr htab hw0 hlen
  go_enter Tryz.func19, Tryz.ntmps19
  rcases HX.out.1 with e | e | e | e | e
  · replace e : k = 0 := e
    subst e
    go_wp2_with fail
    refine (HHB.out (by simp) (by simp)).mono ?_
    rintro e w2 h2
    obtain ⟨v, rfl, h3⟩ := takeEnd_ret h2.take
    go_wp2
    go_ret
    exact h3.from_ HK1.out HK2.out
  · replace e : k = 1 := e
    subst e
    by_cases h50 : o.length = 50
    · have hb : ((o.length : Int) == 50) = true := by rw [h50]; rfl
      go_wp2
      go_ret
      show TakeEnd _ _ _ (if (1 : Int) = 1 then (if (o.map Opn.abs).length = 50 then none else _) else _) _ _ _
      rw [if_pos rfl, HLEN.out, if_pos h50]
      exact ⟨rfl, HK1.out, HK2.out⟩
    · have hb : ((o.length : Int) == 50) = false := beq_eq_false_iff_ne.2 (by omega)
      go_wp2_with fail
      refine (HHB.out (by simp) (by first | exact fun _ => by omega | (simp; omega) | omega)).mono ?_
      rintro e w2 h2
      obtain ⟨v, rfl, h3⟩ := takeEnd_ret h2.take
      go_wp2
      go_ret
      show TakeEnd _ _ _ (if (1 : Int) = 1 then (if (o.map Opn.abs).length = 50 then none else _) else _) _ _ _
      rw [if_pos rfl, HLEN.out, if_neg h50]
      exact h3.from_ HK1.out HK2.out
  · replace e : k = 2 := e
    subst e
    obtain ⟨c, hc, _⟩ := HHX.out rfl
    have hs1 : s.size = 1 := by have : s.data.toList.length = 1 := by rw [hc]; rfl
                                simpa using this
    have hs0 : ∀ h : 0 < s.size, s[0]'h = c := fun h => by
      have : s.data.toList[0]? = some c := by rw [hc]; rfl
      rw [List.getElem?_eq_getElem (by simpa using h)] at this
      exact Option.some.inj this
    have h01 : (0 : Int) < (s.size : Int) := by omega
    have HCC := Lib.hid hc
    clear hc
    go_wp2_with fail
    refine (HHC.out c).mono ?_
    rintro e w2 h2
    obtain ⟨v, rfl, h3⟩ := takeEnd_ret h2.take
    go_wp2
    go_ret
    show TakeEnd _ _ _ (closeA _ _ _ (s.data.toList.headD 0)) _ _ _
    rw [HCC.out]
    exact h3.from_ HK1.out HK2.out
  · replace e : k = 3 := e
    subst e
    by_cases h0 : o.length = 0
    · have hb : ((o.length : Int) == 0) = true := by rw [h0]; rfl
      go_wp2
      go_ret
      show TakeEnd _ _ _ (if (o.map Opn.abs).length = 0 then some _ else none) _ _ _
      rw [HLEN.out, if_pos h0]
      exact ⟨⟨rfl, HRA.out⟩, HK1.out, HK2.out⟩
    · have hb : ((o.length : Int) == 0) = false := beq_eq_false_iff_ne.2 (by omega)
      go_wp2
      go_ret
      show TakeEnd _ _ _ (if (o.map Opn.abs).length = 0 then some _ else none) _ _ _
      rw [HLEN.out, if_neg h0]
      exact ⟨rfl, HK1.out, HK2.out⟩
  · replace e : k = 4 := e
    subst e
    go_wp2
    go_ret
    exact ⟨rfl, HK1.out, HK2.out⟩
end Go.Proofs.YthbighnkohjfnaaGreatDoor
