/-
  CONTRACT of the document's answer: Parse of a set's text.
-/
import Derived.Test.YtecolajhahmfcaaDoorSRefN
import Derived.Test.YtecolajhahmfcaaDoorSRefT
import Derived.Test.YtecolajhahmfcaaDoorSParse
import Derived.Test.YtecolajhahmfcaaDoorSAppAny
namespace Go.Proofs.YtecolajhahmfcaaDoor
open Go.RowKit Go.Shelf

/-- what is read so far, and what is left at a place -/
def PAt (s : ByteArray) (i : Nat) (l : List Sp) : Prop := s.data.toList = bodyT l ++ at_ s i
/-- what was read, and what is left behind it, a blank between -/
def Left0 (s : List UInt8) (l : List Sp) (R : List UInt8) : Prop := (l = [] ∧ s = R) ∨ (l ≠ [] ∧ s = bodyT l ++ 32 :: R)
theorem at_step (s : ByteArray) {i : Nat} (h : i < s.size) : at_ s i = s[i] :: at_ s (i + 1) := drop_at s i h
theorem at_end (s : ByteArray) {i : Nat} (h : s.size ≤ i) : at_ s i = [] := drop_end s i h

set_option maxRecDepth 100000 in
set_option maxHeartbeats 4000000 in
theorem refParse_some (s : ByteArray) (w : World) (hs : s.size ≤ 5000) (hne : dl s ≠ [110, 111, 110, 101]) :
    Calls Tryd.prog 8 #[.string s] w (ParseRd w (dl s)) := by
  obtain ⟨i0, hi, hj0, hj1, hj2⟩ := info_parts info92
  have hmx : 100001 ≤ maxLen := by decide
  have HN := Lib.hid hne
  have hq : (s.toList == [110, 111, 110, 101]) = false := by
    rw [beq_eq_false_iff_ne, ByteArray.toList_eq]; exact hne
  clear hne
  go_enter Tryd.func8, Tryd.ntmps8
  go_wp2_with fail
  go_loopg [4, 5] (s.size + 1) (fun g x y wr => ∃ (i : Nat) (l : List Sp), y = .int .i64 i ∧ i + g = s.size + 1 ∧ Hid (OwnS wr w.heap.size x l) ∧ Hid (AllOk l) ∧ Hid (PAt s i l) ∧ (l = [] → i = 0) ∧ Hid (Below w.heap.size w wr))
  case atStart => exact ⟨0, [], rfl, by omega, ownS_nil _ _, (fun _ h => by cases h), rfl, fun _ => rfl, Below.refl _ _⟩
  case round =>
    obtain ⟨i, l, rfl, hi9, HO, HOK, HP, hl0, HB⟩ := hrel
    obtain ⟨A, c, rfl, hsl, hlc, hcm⟩ := HO.out.sls
    have hlz : l.length ≤ 5000 := by
      have h1 := congrArg List.length HP.out
      have h2 := bodyT_few HOK.out
      have h3 : s.data.toList.length = s.size := Array.length_toList
      rw [List.length_append] at h1
      omega
    have HSL := Lib.hid hsl
    clear hsl
    have hF : ∀ W : World, Below w.heap.size w W → (∀ m, m ≠ [] → AllOk m → SetL m → bodyT m ≠ dl s) → ParseRd w (dl s) (.returned (.tuple #[.slice none 0 0, .int .i64 30])) W := fun W hW h => ⟨.inr ⟨rfl, no_of HN.out h⟩, hW⟩
    have HF := Lib.hid hF
    clear hF
    by_cases hl : l = []
    · subst hl
      obtain rfl : i = 0 := hl0 rfl
      have HLEFT0 : Hid (Left0 s.data.toList [] (at_ s 0)) := .inl ⟨rfl, by unfold at_; rw [List.drop_zero]⟩
      have HLEFT := Lib.hid (left_one HOK.out HLEFT0.out)
      try simp only [List.length_nil]
      by_cases hps : 0 < s.size
      · have hp1 : (0 : Int) < (s.size : Int) := by omega
        have hp2 : ¬ ((s.size : Int) ≤ 0) := by omega
        have hp3 : ¬ s = ByteArray.empty := fun e => by rw [e] at hps; exact absurd hps (by decide)
        have hp4 : ¬ s.size = 0 := by omega
        by_cases h91 : (s[0]'(hps)) = 91
        · have hb1 : (((s[0]'(hps)).toNat : Int) != 91) = false := by rw [h91]; rfl
          have HR : Hid (at_ s 0 = 91 :: at_ s (0 + 1)) := by show _ = _; rw [at_step s hps, h91]
          clear h91
          go_wp2_with fail
          refine (numS_any s 1 44 _ hs (by omega) (.inl rfl)).mono ?_
          rintro e w3 ⟨hn, hb⟩
          have HB3 := Lib.hid (HB.out.trans (hb.mono HB.out.size))
          have HO3 := Lib.hid (HO.out.next hb)
          clear hb
          rcases hn with ⟨n1, m1, rfl, hn1, hlt1, hm1, hr1⟩ | ⟨rfl, hno⟩
          · have hm1z : ¬ ((m1 : Int) < 0) := by omega
            have HR1 : Hid (at_ s (0 + 1) = endT n1 ++ 44 :: at_ s m1) := hr1
            have HN1 := Lib.hid hn1
            clear hr1 hn1
            go_wp2_with fail
            refine (numS_any s m1 41 _ hs hm1 (.inr rfl)).mono ?_
            rintro e w4 ⟨hn, hb⟩
            have HB4 := Lib.hid (HB3.out.trans (hb.mono HB3.out.size))
            have HO4 := Lib.hid (HO3.out.next hb)
            clear hb
            rcases hn with ⟨n2, m2, rfl, hn2, hlt2, hm2, hr2⟩ | ⟨rfl, hno⟩
            · have hm2z : ¬ ((m2 : Int) < 0) := by omega
              have HNEW : Hid (PAt s m2 (([] : List Sp) ++ [(n1, n2)])) := body_snoc' (x := (n1, n2)) HLEFT0.out (by rw [HR.out, HR1.out, hr2])
              have HN2 := Lib.hid hn2
              have hbz := HB4.out.size
              clear hr2 hn2
              go_wp2_with (at_builtin; refine wpList_append_own _ rfl _ _ 22 rfl w.heap.size 38 i0 (.agg #[.int .i64 0, .int .i64 0]) 2 16 Tryd.underlying22 hi hj0 hj1 hj2 rfl (by decide) _ _ _ rfl (HO4.out.alloc _) ⟨w4.heap.size, 0, none⟩ 1 1 (cellsS (n1, n2)) rfl rfl (fun j u h => cell_lit _ _ _ j u h) (cellsS_one _) (by first | omega | (simp; omega)) (by first | omega | (simp; omega)) (by first | omega | (simp; omega)) ?_; intro v' w5 hown' hgrow _; have HO5 := Lib.hid (ownS_snoc hown'); have HB5 := Lib.hid ((HB4.out.alloc HB4.out.size _).trans (below_ownS (HO4.out.alloc _) hgrow (by simp; omega))))
              go_roundg (s.size + 1 - m2)
              case measure => omega
              case rel => exact ⟨m2, ([] : List Sp) ++ [(n1, n2)], rfl, by omega, HO5.out, Lib.hid (fun q hq => by
                rcases List.mem_append.1 hq with h | h
                · exact HOK.out q h
                · rw [List.mem_singleton.1 h]; exact ⟨HN1.out, HN2.out⟩), HNEW.out, (fun h => by simp at h), HB5.out⟩
            · have HFF := Lib.hid (HF.out w4 HB4.out (fun m hm ok hset e => by
                obtain ⟨x, m', h1, h2, h3⟩ := HLEFT.out m hm ok e
                rw [HR.out, HR1.out] at h3
                injection h3 with _ h3
                obtain ⟨h4, h5⟩ := stop_one (.inl rfl) HN1.out h2.1 h3
                exact hno x.2 _ h2.2 h5))
              clear hno
              go_wp2
              go_ret2
              exact HFF.out
          · have HFF := Lib.hid (HF.out w3 HB3.out (fun m hm ok hset e => by
              obtain ⟨x, m', h1, h2, h3⟩ := HLEFT.out m hm ok e
              rw [HR.out] at h3
              injection h3 with _ h3
              exact hno x.1 _ h2.1 h3))
            clear hno
            go_wp2
            go_ret2
            exact HFF.out
        · have hb1 : (((s[0]'(hps)).toNat : Int) != 91) = true := by
            rw [bne_iff_ne]
            intro e
            exact h91 (UInt8.toNat_inj.1 (by show _ = 91; omega))
          have HFF := Lib.hid (HF.out wr HB.out (fun m hm ok hset e => by
            obtain ⟨x, m', h1, h2, h3⟩ := HLEFT.out m hm ok e
            rw [at_step s hps] at h3
            injection h3 with h3 _
            exact h91 h3))
          clear h91
          go_wp2
          go_ret2
          exact HFF.out
      · have hp1 : ¬ ((0 : Int) < (s.size : Int)) := by omega
        have hp2 : (s.size : Int) ≤ 0 := by omega
        have hs0 : s.size = 0 := by omega
        have HFF := Lib.hid (HF.out wr HB.out (fun m hm ok hset e => by
          obtain ⟨x, m', h1, h2, h3⟩ := HLEFT.out m hm ok e
          rw [at_end s (by omega)] at h3
          cases h3))
        have hse : s = ByteArray.empty := ByteArray.ext (Array.eq_empty_of_size_eq_zero hs0)
        subst hse
        go_wp2
        go_ret2
        exact HFF.out
    · have hlp : 0 < l.length := List.length_pos_iff.2 hl
      have hlp1 : (0 : Int) < (l.length : Int) := by omega
      have hlp2 : ((l.length : Int) == 0) = false := by rw [beq_eq_false_iff_ne]; omega
      have HLN := Lib.hid hl
      clear hl hl0
      by_cases his : i < s.size
      · have hi1 : (i : Int) < (s.size : Int) := by omega
        by_cases h32 : (s[i]'(his)) = 32
        · have hb0 : (((s[i]'(his)).toNat : Int) != 32) = false := by rw [h32]; rfl
          have HLEFT0 : Hid (Left0 s.data.toList l (at_ s (i + 1))) := .inr ⟨HLN.out, by
            have h := HP.out
            unfold PAt at h
            rw [at_step s his, h32] at h
            exact h⟩
          have HLEFT := Lib.hid (left_one HOK.out HLEFT0.out)
          clear h32
          by_cases hps : i + 1 < s.size
          · have hp2 : ¬ ((s.size : Int) ≤ (i : Int) + 1) := by omega
            have hp3 : ¬ ((i : Int) + 1 < 0) := by omega
            have hp4 : (i : Int) + 1 < (s.size : Int) := by omega
            by_cases h91 : (s[(i + 1)]'(hps)) = 91
            · have hb1 : (((s[(i + 1)]'(hps)).toNat : Int) != 91) = false := by rw [h91]; rfl
              have HR : Hid (at_ s (i + 1) = 91 :: at_ s (i + 1 + 1)) := by show _ = _; rw [at_step s hps, h91]
              clear h91
              go_wp2_with fail
              refine (numS_any s (i + 1 + 1) 44 _ hs (by omega) (.inl rfl)).mono ?_
              rintro e w3 ⟨hn, hb⟩
              have HB3 := Lib.hid (HB.out.trans (hb.mono HB.out.size))
              have HO3 := Lib.hid (HO.out.next hb)
              clear hb
              rcases hn with ⟨n1, m1, rfl, hn1, hlt1, hm1, hr1⟩ | ⟨rfl, hno⟩
              · have hm1z : ¬ ((m1 : Int) < 0) := by omega
                have HR1 : Hid (at_ s (i + 1 + 1) = endT n1 ++ 44 :: at_ s m1) := hr1
                have HN1 := Lib.hid hn1
                clear hr1 hn1
                go_wp2_with fail
                refine (numS_any s m1 41 _ hs hm1 (.inr rfl)).mono ?_
                rintro e w4 ⟨hn, hb⟩
                have HB4 := Lib.hid (HB3.out.trans (hb.mono HB3.out.size))
                have HO4 := Lib.hid (HO3.out.next hb)
                clear hb
                rcases hn with ⟨n2, m2, rfl, hn2, hlt2, hm2, hr2⟩ | ⟨rfl, hno⟩
                · have hm2z : ¬ ((m2 : Int) < 0) := by omega
                  have HNEW : Hid (PAt s m2 (l ++ [(n1, n2)])) := body_snoc' (x := (n1, n2)) HLEFT0.out (by rw [HR.out, HR1.out, hr2])
                  have HN2 := Lib.hid hn2
                  have hbz := HB4.out.size
                  clear hr2 hn2
                  go_wp2_with (at_builtin; refine wpList_append_own _ rfl _ _ 22 rfl w.heap.size 38 i0 (.agg #[.int .i64 0, .int .i64 0]) 2 16 Tryd.underlying22 hi hj0 hj1 hj2 rfl (by decide) _ _ _ rfl (HO4.out.alloc _) ⟨w4.heap.size, 0, none⟩ 1 1 (cellsS (n1, n2)) rfl rfl (fun j u h => cell_lit _ _ _ j u h) (cellsS_one _) (by first | omega | (simp; omega)) (by first | omega | (simp; omega)) (by first | omega | (simp; omega)) ?_; intro v' w5 hown' hgrow _; have HO5 := Lib.hid (ownS_snoc hown'); have HB5 := Lib.hid ((HB4.out.alloc HB4.out.size _).trans (below_ownS (HO4.out.alloc _) hgrow (by simp; omega))))
                  go_roundg (s.size + 1 - m2)
                  case measure => omega
                  case rel => exact ⟨m2, l ++ [(n1, n2)], rfl, by omega, HO5.out, Lib.hid (fun q hq => by
                    rcases List.mem_append.1 hq with h | h
                    · exact HOK.out q h
                    · rw [List.mem_singleton.1 h]; exact ⟨HN1.out, HN2.out⟩), HNEW.out, (fun h => by simp at h), HB5.out⟩
                · have HFF := Lib.hid (HF.out w4 HB4.out (fun m hm ok hset e => by
                    obtain ⟨x, m', h1, h2, h3⟩ := HLEFT.out m hm ok e
                    rw [HR.out, HR1.out] at h3
                    injection h3 with _ h3
                    obtain ⟨h4, h5⟩ := stop_one (.inl rfl) HN1.out h2.1 h3
                    exact hno x.2 _ h2.2 h5))
                  clear hno
                  go_wp2
                  go_ret2
                  exact HFF.out
              · have HFF := Lib.hid (HF.out w3 HB3.out (fun m hm ok hset e => by
                  obtain ⟨x, m', h1, h2, h3⟩ := HLEFT.out m hm ok e
                  rw [HR.out] at h3
                  injection h3 with _ h3
                  exact hno x.1 _ h2.1 h3))
                clear hno
                go_wp2
                go_ret2
                exact HFF.out
            · have hb1 : (((s[(i + 1)]'(hps)).toNat : Int) != 91) = true := by
                rw [bne_iff_ne]
                intro e
                exact h91 (UInt8.toNat_inj.1 (by show _ = 91; omega))
              have HFF := Lib.hid (HF.out wr HB.out (fun m hm ok hset e => by
                obtain ⟨x, m', h1, h2, h3⟩ := HLEFT.out m hm ok e
                rw [at_step s hps] at h3
                injection h3 with h3 _
                exact h91 h3))
              clear h91
              go_wp2
              go_ret2
              exact HFF.out
          · have hp2 : (s.size : Int) ≤ (i : Int) + 1 := by omega
            have HFF := Lib.hid (HF.out wr HB.out (fun m hm ok hset e => by
              obtain ⟨x, m', h1, h2, h3⟩ := HLEFT.out m hm ok e
              rw [at_end s (by omega)] at h3
              cases h3))
            go_wp2
            go_ret2
            exact HFF.out
        · have hb0 : (((s[i]'(his)).toNat : Int) != 32) = true := by
            rw [bne_iff_ne]
            intro e
            exact h32 (UInt8.toNat_inj.1 (by show _ = 32; omega))
          have HFF := Lib.hid (HF.out wr HB.out (fun m hm ok hset e => by
            have h := HP.out
            unfold PAt at h
            obtain ⟨m', h1, h2⟩ := body_pre HLN.out hm HOK.out ok (e.trans h)
            rw [at_step s his] at h2
            unfold tailT at h2
            split at h2
            · cases h2
            · injection h2 with h2 _
              exact h32 h2))
          clear h32
          go_wp2
          go_ret2
          exact HFF.out
      · have hi1 : ¬ ((i : Int) < (s.size : Int)) := by omega
        have HX : Hid (bodyT l = dl s) := by
          show _ = _
          have h := HP.out
          unfold PAt at h
          rw [at_end s (by omega), List.append_nil] at h
          exact h.symm
        cases hset : setB l
        · have HFF : Hid (∀ W : World, Below w.heap.size w W → ParseRd w (dl s) (.returned (.tuple #[.slice none 0 0, .int .i64 30])) W) := fun W hW => HF.out W hW (fun m hm ok hset' e => by
            have h1 := bodyT_inj hm HLN.out ok HOK.out (e.trans HX.out.symm)
            subst h1
            exact of_decide_eq_false hset hset')
          have HI := Lib.hid (refSet_is A c l wr false hset HSL.out (by omega))
          clear hset
          go_wp2_with fail
          refine HI.out.mono ?_
          rintro e w3 ⟨rfl, hb⟩
          have HB3 := Lib.hid (HB.out.trans (hb.mono HB.out.size))
          clear hb
          go_wp2
          go_ret2
          exact HFF.out _ HB3.out
        · have HSS := Lib.hid (of_decide_eq_true hset)
          have HI := Lib.hid (refSet_is A c l wr true hset HSL.out (by omega))
          clear hset
          go_wp2_with fail
          refine HI.out.mono ?_
          rintro e w3 ⟨rfl, hb⟩
          have HB3 := Lib.hid (HB.out.trans (hb.mono HB.out.size))
          have HO3 := Lib.hid (HO.out.next hb)
          clear hb
          go_wp2
          go_ret2
          exact ⟨.inl ⟨l, _, rfl, HO3.out, HOK.out, HSS.out, by unfold textT; rw [if_neg HLN.out]; exact HX.out⟩, HB3.out⟩
end Go.Proofs.YtecolajhahmfcaaDoor
