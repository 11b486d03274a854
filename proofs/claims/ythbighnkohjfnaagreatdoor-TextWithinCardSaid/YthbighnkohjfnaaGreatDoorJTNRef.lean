/-
  CONTRACT: the document's Named.
-/
import Derived.Deep.Cut
import Derived.Test.YthbighnkohjfnaaGreatDoorJTNMid
namespace Go.Proofs.YthbighnkohjfnaaGreatDoor
open Go.RowKit

theorem size_list (s : ByteArray) : s.data.toList.length = s.size := by simp
theorem head_at (s : ByteArray) (h : 0 < s.size) : s.data.toList.headD 0 = s[0] := by
  have : s.data.toList[0]? = some s[0] := by
    rw [List.getElem?_eq_getElem (by simpa using h)]; rfl
  cases hl : s.data.toList with
  | nil => rw [hl] at this; simp at this
  | cons a r => rw [hl] at this; simpa using this
/-- the four ways of a byte -/
theorem byteWays (d : UInt8) : (¬ 48 ≤ (d.toNat : Int) ∧ ¬ 97 ≤ (d.toNat : Int) ∧ digC d = false ∧ lowC d = false) ∨ (48 ≤ (d.toNat : Int) ∧ (d.toNat : Int) ≤ 57 ∧ ¬ 97 ≤ (d.toNat : Int) ∧ digC d = true ∧ lowC d = false) ∨
    (48 ≤ (d.toNat : Int) ∧ ¬ (d.toNat : Int) ≤ 57 ∧ ¬ 97 ≤ (d.toNat : Int) ∧ digC d = false ∧ lowC d = false) ∨ (48 ≤ (d.toNat : Int) ∧ ¬ (d.toNat : Int) ≤ 57 ∧ 97 ≤ (d.toNat : Int) ∧ (d.toNat : Int) ≤ 122 ∧ digC d = false ∧ lowC d = true) ∨ (48 ≤ (d.toNat : Int) ∧ ¬ (d.toNat : Int) ≤ 57 ∧ 97 ≤ (d.toNat : Int) ∧ ¬ (d.toNat : Int) ≤ 122 ∧ digC d = false ∧ lowC d = false) := by
  unfold digC lowC
  simp only [decide_eq_true_eq, decide_eq_false_iff_not]
  omega
/-- the ways of what leads -/
theorem leadWays (l : List UInt8) (k : Nat) (a : UInt8) (ha : l.headD 0 = a) :
    (k = 0 ∧ (decide (k = 0) || (decide (k = 1) && ledB l)) = true) ∨ (k = 1 ∧ ((a.toNat : Int) == 43) = true ∧ (decide (k = 0) || (decide (k = 1) && ledB l)) = true) ∨
    (k = 1 ∧ ((a.toNat : Int) == 43) = false ∧ ((a.toNat : Int) == 45) = true ∧ (decide (k = 0) || (decide (k = 1) && ledB l)) = true) ∨
    (k = 1 ∧ ((a.toNat : Int) == 43) = false ∧ ((a.toNat : Int) == 45) = false ∧ ((a.toNat : Int) == 33) = true ∧ (decide (k = 0) || (decide (k = 1) && ledB l)) = true) ∨
    (k = 1 ∧ ((a.toNat : Int) == 43) = false ∧ ((a.toNat : Int) == 45) = false ∧ ((a.toNat : Int) == 33) = false ∧ (decide (k = 0) || (decide (k = 1) && ledB l)) = false) ∨
    ((((k : Int) == 0) = false ∧ ((k : Int) == 1) = false) ∧ (decide (k = 0) || (decide (k = 1) && ledB l)) = false) := by
  rcases (by omega : k = 0 ∨ k = 1 ∨ 2 ≤ k) with rfl | rfl | h
  · exact .inl ⟨rfl, rfl⟩
  · right
    have e : (decide ((1 : Nat) = 0) || (decide ((1 : Nat) = 1) && ledB l)) = ledB l := by simp
    rw [e]
    have ev : ∀ q : UInt8, ((a.toNat : Int) == (q.toNat : Int)) = (a == q) := fun q => by
      rw [Bool.eq_iff_iff, beq_iff_eq, beq_iff_eq]
      constructor
      · intro h; exact UInt8.toNat_inj.1 (by omega)
      · intro h; rw [h]
    have e43 := ev 43
    have e45 := ev 45
    have e33 := ev 33
    have hl : ledB l = ((a == 43) || ((a == 45) || (a == 33))) := by
      unfold ledB sgl
      rw [ha]
      simp only [List.contains_cons, List.contains_nil, Bool.or_false]
    rw [show (43 : Int) = ((43 : UInt8).toNat : Int) from rfl, show (45 : Int) = ((45 : UInt8).toNat : Int) from rfl, show (33 : Int) = ((33 : UInt8).toNat : Int) from rfl, e43, e45, e33, hl]
    cases a == 43 <;> cases a == 45 <;> cases a == 33 <;> simp
  · refine .inr (.inr (.inr (.inr (.inr ⟨⟨by rw [beq_eq_false_iff_ne]; omega, by rw [beq_eq_false_iff_ne]; omega⟩, ?_⟩))))
    rw [decide_eq_false (by omega), decide_eq_false (by omega)]; rfl
theorem namR_no (l : List UInt8) (k : Nat) (d : UInt8) (hd : l[k]? = some d) (h : atB l k d = false) : namR l = false := by
  unfold namR
  rw [← Bool.not_eq_true, Bool.and_eq_true]
  rintro ⟨_, h2⟩
  rw [(namR_all l).1 h2 k d hd] at h
  cases h
theorem namR_yes (l : List UInt8) (h1 : l ≠ []) (h2 : l.length ≤ 64) (h3 : l ≠ tru) (h4 : l ≠ fls) (h : ∀ (j : Nat) d, l[j]? = some d → atB l j d = true) : namR l = true := by
  unfold namR
  rw [decide_eq_true ⟨h1, h2, h3, h4⟩, (namR_all l).2 h]; rfl
theorem namR_out (l : List UInt8) (h : l = [] ∨ 64 < l.length ∨ l = tru ∨ l = fls) : namR l = false := by
  unfold namR
  rw [decide_eq_false]
  · rfl
  · rintro ⟨h1, h2, h3, h4⟩
    rcases h with h | h | h | h
    · exact h1 h
    · omega
    · exact h3 h
    · exact h4 h

set_option maxRecDepth 100000 in
set_option maxHeartbeats 4000000 in
theorem refNamed_any (s : ByteArray) (w : World) (hs : s.size ≤ 30000) :
    Calls Tryz.prog 58 #[.string s] w fun e w' => e = .returned (.bool (namR s.data.toList)) ∧ w = w' := by
  have hsl := size_list s
  obtain ⟨R, hR⟩ : ∃ R, namR s.data.toList = R := ⟨_, rfl⟩
  rw [hR]
  have HSL := Lib.hid hsl
  by_cases h0 : s.size = 0
  · have HR : Hid (R = false) := by show _ = _; rw [← hR]; exact namR_out _ (.inl (List.length_eq_zero_iff.1 (by omega)))
    have h0i : ((s.size : Int) == 0) = true := by rw [h0]; rfl
    clear hR hsl h0
    go_enter Tryz.func58, Tryz.ntmps58
    go_wp2
    go_ret
    exact ⟨by rw [HR.out]; rfl, rfl⟩
  have h0i : ((s.size : Int) == 0) = false := by rw [beq_eq_false_iff_ne]; omega
  have hpos : 0 < s.size := by omega
  by_cases h64 : 64 < s.size
  · have HR : Hid (R = false) := by show _ = _; rw [← hR]; exact namR_out _ (.inr (.inl (by omega)))
    have hi : (64 : Int) < (s.size : Int) := by omega
    clear hR hsl h0
    go_enter Tryz.func58, Tryz.ntmps58
    go_wp2
    go_ret
    exact ⟨by rw [HR.out]; rfl, rfl⟩
  have hi : ¬ (64 : Int) < (s.size : Int) := by omega
  have el : s.toList = s.data.toList := ByteArray.toList_eq s
  by_cases hT : s.data.toList = tru
  · have HR : Hid (R = false) := by show _ = _; rw [← hR]; exact namR_out _ (.inr (.inr (.inl hT)))
    have hTi : (s.toList == [116, 114, 117, 101]) = true := by rw [el, hT]; rfl
    clear hR hsl h0 el hT
    go_enter Tryz.func58, Tryz.ntmps58
    go_wp2
    go_ret
    exact ⟨by rw [HR.out]; rfl, rfl⟩
  have hTi : (s.toList == [116, 114, 117, 101]) = false := by rw [el]; exact beq_eq_false_iff_ne.2 hT
  by_cases hF : s.data.toList = fls
  · have HR : Hid (R = false) := by show _ = _; rw [← hR]; exact namR_out _ (.inr (.inr (.inr hF)))
    have hFi : (s.toList == [102, 97, 108, 115, 101]) = true := by rw [el, hF]; rfl
    clear hR hsl h0 el hT hF
    go_enter Tryz.func58, Tryz.ntmps58
    go_wp2
    go_ret
    exact ⟨by rw [HR.out]; rfl, rfl⟩
  have hFi : (s.toList == [102, 97, 108, 115, 101]) = false := by rw [el]; exact beq_eq_false_iff_ne.2 hF
  have HRY : Hid ((∀ (j : Nat) d, s.data.toList[j]? = some d → atB s.data.toList j d = true) → R = true) := fun h => by
    rw [← hR]
    exact namR_yes _ (fun e => by rw [e] at hsl; simp at hsl; omega) (by omega) hT hF h
  have HRN : Hid (∀ (k : Nat) d, s.data.toList[k]? = some d → atB s.data.toList k d = false → R = false) := fun k d hd h => by
    rw [← hR]; exact namR_no _ k d hd h
  have ha := head_at s hpos
  obtain ⟨a0, ha0⟩ : ∃ a, s[0] = a := ⟨_, rfl⟩
  rw [ha0] at ha
  have HA := Lib.hid ha
  have HA0 := Lib.hid ha0
  clear hR hsl h0 el hT hF ha ha0
  go_enter Tryz.func58, Tryz.ntmps58
  go_wp2
  go_loopg [3] s.size (fun g x wr => ∃ k : Nat, k + g = s.size ∧ x = .int .i64 k ∧ wr = w ∧ Hid (∀ (j : Nat) d, j < k → s.data.toList[j]? = some d → atB s.data.toList j d = true))
  case atStart => exact ⟨0, by omega, rfl, rfl, fun j d hj => by omega⟩
  case round =>
    obtain ⟨k, hk, rfl, rfl, HF⟩ := hrel
    cases gk with
    | zero =>
      have hks : ¬ ((k : Int) < (s.size : Int)) := by omega
      have HB : Hid (R = true) := HRY.out fun j d hd => HF.out j d (by have := (List.getElem?_eq_some_iff.1 hd).1; have := HSL.out; omega) hd
      go_wp2
      go_ret
      exact ⟨by rw [HB.out]; rfl, rfl⟩
    | succ g =>
      have hki : (k : Int) < (s.size : Int) := by omega
      have hkn : k < s.size := by omega
      have HD : Hid (s.data.toList[k]? = some s[k]) := by
        show _ = _
        rw [List.getElem?_eq_getElem (by simpa using hkn)]; rfl
      have hcon := refIn_any ⟨#[63, 95, 43, 45, 42, 47, 60, 62, 61, 33, 46, 37, 38]⟩ s[k] wr (by decide)
      have hcr : (⟨#[63, 95, 43, 45, 42, 47, 60, 62, 61, 33, 46, 37, 38]⟩ : ByteArray).data.toList = sgs := rfl
      rw [hcr] at hcon
      obtain ⟨r, hr⟩ : ∃ r, sgs.contains s[k] = r := ⟨_, rfl⟩
      rw [hr] at hcon
      have HK := Lib.hid hcon
      have hbw := byteWays s[k]
      have hlw := leadWays s.data.toList k a0 HA.out
      have hat : atB s.data.toList k s[k] = ((lowC s[k] || (digC s[k] || r)) && !(digC s[k] && (decide (k = 0) || (decide (k = 1) && ledB s.data.toList)))) := by
        unfold atB clsC
        rw [hr]
      have HSTEP : Hid (atB s.data.toList k s[k] = true → ∀ (j : Nat) d, j < k + 1 → s.data.toList[j]? = some d → atB s.data.toList j d = true) := fun h j d hj hd => by
        by_cases e : j = k
        · subst e
          rw [HD.out] at hd
          rw [← Option.some.inj hd]; exact h
        · exact HF.out j d (by omega) hd
      have HNO : Hid (atB s.data.toList k s[k] = false → R = false) := fun h => HRN.out k _ HD.out h
      clear hcon hr HF HD hcr
      obtain ⟨D, hD⟩ : ∃ D, digC s[k] = D := ⟨_, rfl⟩
      obtain ⟨L, hL⟩ : ∃ L, lowC s[k] = L := ⟨_, rfl⟩
      obtain ⟨E, hE⟩ : ∃ E, (decide (k = 0) || (decide (k = 1) && ledB s.data.toList)) = E := ⟨_, rfl⟩
      obtain ⟨T, hT⟩ : ∃ T, atB s.data.toList k s[k] = T := ⟨_, rfl⟩
      rw [hD, hL] at hbw
      rw [hE] at hlw
      rw [hD, hL, hE, hT] at hat
      rw [hT] at HSTEP HNO
      have HAT := Lib.hid hat
      clear hD hL hE hT hat
      have haa : s[0] = a0 := HA0.out
      rcases hbw with ⟨h1, h2, rfl, rfl⟩ | ⟨h1, h2, h3, rfl, rfl⟩ | ⟨h1, h2, h3, rfl, rfl⟩ | ⟨h1, h2, h3, h4, rfl, rfl⟩ | ⟨h1, h2, h3, h4, rfl, rfl⟩
      all_goals
        go_wp2_with fail
        refine HK.out.mono ?_
        rintro e w' ⟨rfl, rfl⟩
        go_upto_region 10 with (fail)
        clear h1 h2 HK
      all_goals rcases hlw with ⟨rfl, rfl⟩ | ⟨rfl, q1, rfl⟩ | ⟨rfl, q1, q2, rfl⟩ | ⟨rfl, q1, q2, q3, rfl⟩ | ⟨rfl, q1, q2, q3, rfl⟩ | ⟨⟨q1, q2⟩, rfl⟩
      all_goals cases r
      all_goals
        go_wp2
        first
          | (go_roundg g
             case measure => omega
             case rel => exact ⟨_, by omega, by go_num, rfl, HSTEP.out HAT.out⟩)
          | (go_ret
             exact ⟨by rw [HNO.out HAT.out]; rfl, rfl⟩)
end Go.Proofs.YthbighnkohjfnaaGreatDoor
