/-
  THE LAW OrderBack: its walk.
-/
import Derived.Test.YtdlkblnnnmgijaaOKinds
import Derived.Test.YtdlkblnnnmgijaaOReads
namespace Go.Proofs.Ytdlkblnnnmgijaa
open Go.RowKit Go.Shelf

theorem great_at (A : Option Addr) (c : Nat) (l : List PartP) (w : World) (B : Nat) (g : Bool) (hs : SlP w B A l) (hl : l.length ≤ 1048576) (hz : ∀ p ∈ l, p.s.size ≤ 1048576) (hg : decide ((5000 : Int) < costP l) = g) :
    Calls Try.prog 15 #[.slice A l.length c] w fun e w' => e = .returned (.bool g) ∧ w = w' :=
  (great_any A c l w B hs hl hz).mono fun e w' ⟨h, h'⟩ => ⟨by rw [h, hg], h'⟩
def keyM (l : List PartP) : Int := if l.all partMay = true then 0 else 10
def keyS (l : List PartP) : List UInt8 := if l.all partMay = true then keyB l else []
theorem keyEnd_at {W w' : World} {l : List PartP} {e : Ending} (h : KeyEnd W l e w') : ∃ A c, e = .returned (.tuple #[.slice A (keyS l).length c, .int .i64 (keyM l)]) ∧ SlB w' w'.heap.size A (keyS l) ∧ (keyS l).length ≤ c ∧ c ≤ maxLen ∧ Below W.heap.size W w' := by
  rcases h with ⟨hm, ⟨v, rfl, ho⟩, hb⟩ | ⟨hm, rfl, hb⟩
  · obtain ⟨A, c, rfl⟩ := ownB_form ho
    obtain ⟨h1, h2⟩ := ownB_cap ho
    unfold keyM keyS
    rw [if_pos hm, if_pos hm]
    exact ⟨A, c, rfl, (SlB.of_own ho).2, h1, h2, hb⟩
  · unfold keyM keyS
    rw [hm]
    exact ⟨none, 0, rfl, fun h => absurd rfl h, Nat.le_refl _, Nat.zero_le _, hb⟩

set_option maxRecDepth 100000 in
set_option maxHeartbeats 4000000 in
theorem back_any (A A' A2 : Option Addr) (c c' c2 : Nat) (l : List PartP) (b : List UInt8) (ks : List Bool) (w : World) (hs : SlP w w.heap.size A l) (hs' : SlB w w.heap.size A' b) (hsk : SlK w w.heap.size A2 ks) (hl : l.length ≤ 1048576) (hbc : b.length ≤ c') (hcm : c' ≤ maxLen)
    (hz : ∀ p ∈ l, p.s.size ≤ 1048576) (hok : ∀ p ∈ l, partOk p) :
    Calls Try.prog 7 #[.slice A l.length c, .slice A' b.length c', .slice A2 ks.length c2] w fun e w' => e = .returned (.bool true) ∧ Below w.heap.size w w' := by
  have HS := Lib.hid hs
  have HS' := Lib.hid hs'
  have HSK := Lib.hid hsk
  have HZ := Lib.hid hz
  have HOK := Lib.hid hok
  have HCM := Lib.hid hcm
  clear hs hs' hz hok hsk hcm
  go_enter Try.func7, Try.ntmps7
  go_wp2_with fail
  refine (alive_any _).mono ?_
  rintro e w1 ⟨rfl, hb1⟩
  have HB1 := Lib.hid hb1
  have HS1 := Lib.hid ((HS.out.next hb1 (Nat.le_refl _)).more hb1.size)
  clear hb1
  by_cases hga : decide ((5000 : Int) < costP l) = true
  · have HGA := Lib.hid hga
    clear hga
    go_wp2_with fail
    refine (great_at A c l _ _ true HS1.out hl HZ.out HGA.out).mono ?_
    rintro e w2 ⟨rfl, rfl⟩
    go_wp2
    go_ret
    exact ⟨rfl, HB1.out⟩
  have HGA : Hid (decide ((5000 : Int) < costP l) = false) := by show _ = _; simpa using hga
  have hca : costP l ≤ 5000 := by have := HGA.out; rw [decide_eq_false_iff_not] at this; omega
  have HCA := Lib.hid hca
  have hla := costP_len l
  have hl5 : l.length ≤ 500 := by omega
  clear hga hca hla
  by_cases h1 : (5000 : Int) < (b.length : Int)
  · go_wp2_with fail
    refine (great_at A c l _ _ false HS1.out hl HZ.out HGA.out).mono ?_
    rintro e w2 ⟨rfl, rfl⟩
    go_wp2
    go_ret
    exact ⟨rfl, HB1.out⟩
  by_cases h2 : (100 : Int) < (ks.length : Int)
  · go_wp2_with fail
    refine (great_at A c l _ _ false HS1.out hl HZ.out HGA.out).mono ?_
    rintro e w2 ⟨rfl, rfl⟩
    go_wp2
    go_ret
    exact ⟨rfl, HB1.out⟩
  go_wp2_with fail
  refine (great_at A c l _ _ false HS1.out hl HZ.out HGA.out).mono ?_
  rintro e w2 ⟨rfl, rfl⟩
  go_wp2_with fail
  refine (key_big A c l _ HS1.out (by have := HCA.out; omega) HOK.out).mono ?_
  rintro e w2 he
  obtain ⟨XA, xc, rfl, hx, hxc, hxm, hb2⟩ := keyEnd_at he
  have HX := Lib.hid hx
  have HXC := Lib.hid hxc
  have HXM := Lib.hid hxm
  have HB2 := Lib.hid (HB1.out.trans (hb2.mono HB1.out.size))
  have HS2 := Lib.hid ((HS.out.next HB2.out (Nat.le_refl _)).more HB2.out.size)
  have HKL : Hid ((keyS l).length ≤ 10000) := by
    show _ ≤ _
    unfold keyS
    split
    · have := keyB_len l; have := HCA.out; omega
    · simp
  have HKD : Hid (keyM l = 0 → readL (l.map (·.v)) (keyS l) = some (l.map cleanP)) := fun h => by
    unfold keyM at h
    unfold keyS
    by_cases hm : l.all partMay = true
    · rw [if_pos hm]; exact read_key hm HOK.out
    · rw [if_neg hm] at h; cases h
  have hke : keyM l = 0 ∨ keyM l = 10 := by unfold keyM; split <;> simp
  obtain ⟨KS, hKS⟩ : ∃ L, keyS l = L := ⟨_, rfl⟩
  obtain ⟨KM, hKM⟩ : ∃ L, keyM l = L := ⟨_, rfl⟩
  rw [hKS] at HX HXC HKL HKD
  rw [hKM] at HKD hke
  rw [hKS, hKM]
  have HKE := Lib.hid hke
  clear he hx hxc hxm hb2 hKS hKM hke HS1
  go_wp2_with fail
  refine (kinds_any A c l _ HS2.out (by omega)).mono ?_
  rintro e w3 ⟨v3, rfl, hk3, hb3⟩
  obtain ⟨KA, kc, rfl, hk3s⟩ := hk3.slk
  have HK3 := Lib.hid hk3s
  have HX3 := Lib.hid ((HX.out.next hb3 (Nat.le_refl _)).more hb3.size)
  have HB3 := Lib.hid (HB2.out.trans (hb3.mono HB2.out.size))
  have hkl : (l.map (·.v)).length ≤ 1200 := by rw [List.length_map]; omega
  have HKL2 := Lib.hid hkl
  obtain ⟨LV, hLV⟩ : ∃ L, l.map (·.v) = L := ⟨_, rfl⟩
  rw [hLV] at HK3 HKL2 HKD
  rw [hLV]
  clear hk3 hk3s hb3 hkl hLV HX HS2
  go_wp2_with fail
  refine (read_any _ _ _ _ KS LV _ HX3.out HK3.out HKL.out HKL2.out HXC.out HXM.out).mono ?_
  rintro e w4 he
  obtain ⟨MA, mc, rfl, hm4, hb4⟩ := readEnd_form he
  have HM4 := Lib.hid hm4
  have HB4 := Lib.hid (HB3.out.trans (hb4.mono HB3.out.size))
  have HS4 := Lib.hid ((HS.out.next HB4.out (Nat.le_refl _)).more HB4.out.size)
  have HKN : Hid (KM = 0 → readN LV KS = 0) := fun h => by unfold readN; rw [HKD.out h]; rfl
  obtain ⟨RN, hRN⟩ : ∃ L, readN LV KS = L := ⟨_, rfl⟩
  obtain ⟨RL, hRL⟩ : ∃ L, (readL LV KS).getD [] = L := ⟨_, rfl⟩
  have HKD2 : Hid (KM = 0 → RL = l.map cleanP) := fun h => by rw [← hRL, HKD.out h]; rfl
  rw [hRN] at HKN
  rw [hRL] at HM4
  rw [hRN, hRL]
  clear he hm4 hb4 hRN hRL HK3 HX3 HKD HXC HXM HKL HKL2
  rcases HKE.out with hk0 | hk0
  · have hr0 := HKN.out hk0
    have HRL := Lib.hid (HKD2.out hk0)
    subst hk0 hr0
    clear HKN HKD2 HKE
    go_wp2_with fail
    refine (clean_any A c l _ HS4.out (by omega)).mono ?_
    rintro e w5 ⟨v5, rfl, hk5, hb5⟩
    obtain ⟨CA, cc, rfl, hc5⟩ := hk5.slp
    have HM5 := Lib.hid ((HM4.out.next hb5 (Nat.le_refl _)).more hb5.size)
    have HC5 := Lib.hid hc5
    have HB5 := Lib.hid (HB4.out.trans (hb5.mono HB4.out.size))
    have hcl : (l.map cleanP).length ≤ 1048576 := by rw [List.length_map]; omega
    have HCL := Lib.hid hcl
    rw [HRL.out] at HM5
    rw [HRL.out]
    obtain ⟨CL, hCL⟩ : ∃ L, l.map cleanP = L := ⟨_, rfl⟩
    rw [hCL] at HM5 HC5 HCL
    rw [hCL]
    clear hk5 hb5 hc5 hcl hCL HM4 HRL HS4
    go_wp2_with fail
    refine (same_any _ _ _ _ CL _ _ HM5.out HC5.out HCL.out).mono ?_
    rintro e w6 ⟨rfl, nd, rfl⟩
    have HB6 : Hid (Below w.heap.size w (w5.drewN nd)) := below_dn HB5.out nd
    have HS6 := Lib.hid ((HS'.out.next HB6.out (Nat.le_refl _)).more HB6.out.size)
    have HK6 := Lib.hid (SlK.more (HSK.out.next HB6.out (Nat.le_refl _)) HB6.out.size)
    go_wp2_with fail
    refine (read_any _ _ _ _ b ks _ HS6.out HK6.out (by omega) (by omega) hbc HCM.out).mono ?_
    rintro e w7 he
    obtain ⟨YA, yc, rfl, hy, hb7⟩ := readEnd_form he
    have HY := Lib.hid hy
    have HB7 := Lib.hid (HB6.out.trans (hb7.mono HB6.out.size))
    have HYP : Hid (costP ((readL ks b).getD []) ≤ 7000 ∧ (∀ p ∈ (readL ks b).getD [], partOk p) ∧ (readN ks b = 20 ∨ (readN ks b = 0 ∧ keyM ((readL ks b).getD []) = 0 ∧ keyS ((readL ks b).getD []) = b))) := by
      show _ ∧ _
      unfold readN
      cases hr : readL ks b with
      | none => exact ⟨by simp [costP], fun p hp => (by cases hp), .inl rfl⟩
      | some ps =>
        obtain ⟨k1, k2, k3, k4⟩ := key_read hr
        refine ⟨by show costP ps ≤ 7000; omega, k3, .inr ⟨rfl, ?_, ?_⟩⟩
        · show keyM ps = 0; unfold keyM; rw [if_pos k2]
        · show keyS ps = b; unfold keyS; rw [if_pos k2, k1]
    obtain ⟨YN, hYN⟩ : ∃ L, readN ks b = L := ⟨_, rfl⟩
    obtain ⟨YL, hYL⟩ : ∃ L, (readL ks b).getD [] = L := ⟨_, rfl⟩
    rw [hYN, hYL] at HYP
    rw [hYL] at HY
    rw [hYN, hYL]
    clear he hy hb7 hYN hYL HS6 HK6
    go_wp2_with fail
    refine (key_big _ _ YL _ HY.out HYP.out.1 HYP.out.2.1).mono ?_
    rintro e w8 he
    obtain ⟨ZA, zc, rfl, hz8, _, _, hb8⟩ := keyEnd_at he
    have HZ8 := Lib.hid hz8
    have HB8 := Lib.hid (HB7.out.trans (hb8.mono HB7.out.size))
    have HS8 := Lib.hid (HS'.out.next HB8.out (Nat.le_refl _))
    rcases HYP.out.2.2 with hn | ⟨hn, hm, hks⟩
    · subst hn
      obtain ⟨ZM, hZM⟩ : ∃ L, keyM YL = L := ⟨_, rfl⟩
      obtain ⟨ZS, hZS⟩ : ∃ L, keyS YL = L := ⟨_, rfl⟩
      rw [hZM, hZS]
      clear he hz8 hb8 hZM hZS HYP
      go_wp2
      go_ret
      exact ⟨rfl, HB8.out⟩
    · subst hn
      rw [hks] at HZ8
      rw [hm, hks]
      have hc1 := slB_string HZ8.out
      have hc2 := slB_string HS8.out
      clear he hz8 hb8 hm hks HYP
      go_wp2
      go_ret
      exact ⟨rfl, HB8.out⟩
  · subst hk0
    clear HKN HKD2 HKE HM4
    have HB6 := HB4
    have HS6 := Lib.hid ((HS'.out.next HB6.out (Nat.le_refl _)).more HB6.out.size)
    have HK6 := Lib.hid (SlK.more (HSK.out.next HB6.out (Nat.le_refl _)) HB6.out.size)
    go_wp2_with fail
    refine (read_any _ _ _ _ b ks _ HS6.out HK6.out (by omega) (by omega) hbc HCM.out).mono ?_
    rintro e w7 he
    obtain ⟨YA, yc, rfl, hy, hb7⟩ := readEnd_form he
    have HY := Lib.hid hy
    have HB7 := Lib.hid (HB6.out.trans (hb7.mono HB6.out.size))
    have HYP : Hid (costP ((readL ks b).getD []) ≤ 7000 ∧ (∀ p ∈ (readL ks b).getD [], partOk p) ∧ (readN ks b = 20 ∨ (readN ks b = 0 ∧ keyM ((readL ks b).getD []) = 0 ∧ keyS ((readL ks b).getD []) = b))) := by
      show _ ∧ _
      unfold readN
      cases hr : readL ks b with
      | none => exact ⟨by simp [costP], fun p hp => (by cases hp), .inl rfl⟩
      | some ps =>
        obtain ⟨k1, k2, k3, k4⟩ := key_read hr
        refine ⟨by show costP ps ≤ 7000; omega, k3, .inr ⟨rfl, ?_, ?_⟩⟩
        · show keyM ps = 0; unfold keyM; rw [if_pos k2]
        · show keyS ps = b; unfold keyS; rw [if_pos k2, k1]
    obtain ⟨YN, hYN⟩ : ∃ L, readN ks b = L := ⟨_, rfl⟩
    obtain ⟨YL, hYL⟩ : ∃ L, (readL ks b).getD [] = L := ⟨_, rfl⟩
    rw [hYN, hYL] at HYP
    rw [hYL] at HY
    rw [hYN, hYL]
    clear he hy hb7 hYN hYL HS6 HK6
    go_wp2_with fail
    refine (key_big _ _ YL _ HY.out HYP.out.1 HYP.out.2.1).mono ?_
    rintro e w8 he
    obtain ⟨ZA, zc, rfl, hz8, _, _, hb8⟩ := keyEnd_at he
    have HZ8 := Lib.hid hz8
    have HB8 := Lib.hid (HB7.out.trans (hb8.mono HB7.out.size))
    have HS8 := Lib.hid (HS'.out.next HB8.out (Nat.le_refl _))
    rcases HYP.out.2.2 with hn | ⟨hn, hm, hks⟩
    · subst hn
      obtain ⟨ZM, hZM⟩ : ∃ L, keyM YL = L := ⟨_, rfl⟩
      obtain ⟨ZS, hZS⟩ : ∃ L, keyS YL = L := ⟨_, rfl⟩
      rw [hZM, hZS]
      clear he hz8 hb8 hZM hZS HYP
      go_wp2
      go_ret
      exact ⟨rfl, HB8.out⟩
    · subst hn
      rw [hks] at HZ8
      rw [hm, hks]
      have hc1 := slB_string HZ8.out
      have hc2 := slB_string HS8.out
      clear he hz8 hb8 hm hks HYP
      go_wp2
      go_ret
      exact ⟨rfl, HB8.out⟩
end Go.Proofs.Ytdlkblnnnmgijaa
