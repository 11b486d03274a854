/-
  THE LAW SpanTexts: its walk.
-/
import Derived.Test.YtecolajhahmfcaaDoorSRefPs
import Derived.Test.YtecolajhahmfcaaDoorSBackL
namespace Go.Proofs.YtecolajhahmfcaaDoor
open Go.RowKit Go.Shelf

set_option maxRecDepth 100000 in
theorem refParse_none (s : ByteArray) (w : World) (h : dl s = [110, 111, 110, 101]) : Calls Tryd.prog 8 #[.string s] w (ParseRd w (dl s)) := by
  have hq : (s.toList == [110, 111, 110, 101]) = true := by
    rw [beq_iff_eq, ByteArray.toList_eq]; exact h
  have HH : Hid (ParseRd w (dl s) (.returned (.tuple #[.slice none 0 0, .int .i64 0])) w) := ⟨.inl ⟨[], _, rfl, ownS_nil _ _, (fun _ h => by cases h), setL_nil, by rw [h]; rfl⟩, Below.refl _ _⟩
  clear h
  go_enter Tryd.func8, Tryd.ntmps8
  go_wp2
  go_ret2
  exact HH.out
theorem refParseS_any (s : ByteArray) (w : World) (hs : s.size ≤ 5000) : Calls Tryd.prog 8 #[.string s] w (ParseRd w (dl s)) := by
  by_cases h : dl s = [110, 111, 110, 101]
  · exact refParse_none s w h
  · exact refParse_some s w hs h
set_option maxRecDepth 100000 in
theorem refTextS_no (A : Option Addr) (c : Nat) (l : List Sp) (w : World) (hs : SlS w w.heap.size A l) (hl : l.length ≤ 6000) (hset : setB l = false) :
    Calls Tryd.prog 6 #[.slice A l.length c] w fun e w' => e = .returned (.tuple #[.string ⟨#[]⟩, .int .i64 30]) ∧ Below w.heap.size w w' := by
  have HI := Lib.hid (refSet_is A c l w false hset hs (by omega))
  clear hs hset
  go_enter Tryd.func6, Tryd.ntmps6
  go_wp2_with fail
  refine HI.out.mono ?_
  rintro e w1 ⟨rfl, hb1⟩
  go_wp2
  go_ret2
  exact ⟨rfl, hb1⟩
set_option maxRecDepth 100000 in
theorem refTextS_nil (A : Option Addr) (c : Nat) (w : World) :
    Calls Tryd.prog 6 #[.slice A 0 c] w fun e w' => e = .returned (.tuple #[.string ⟨(textT []).toArray⟩, .int .i64 0]) ∧ Below w.heap.size w w' := by
  have HI := Lib.hid (refSet_is A c [] w true (decide_eq_true setL_nil) (fun h => absurd rfl h) (by decide))
  go_enter Tryd.func6, Tryd.ntmps6
  go_wp2_with fail
  refine HI.out.mono ?_
  rintro e w1 ⟨rfl, hb1⟩
  have HB := Lib.hid hb1
  clear hb1
  go_wp2
  go_loopg [5, 6] 0 (fun g x y wr => x = .string ⟨#[]⟩ ∧ y = .int .i64 0 ∧ Hid (Below w.heap.size w wr))
  case atStart => exact ⟨rfl, rfl, HB.out⟩
  case round =>
    obtain ⟨rfl, rfl, HB⟩ := hrel
    go_wp2
    go_ret2
    exact ⟨rfl, HB.out⟩
theorem refTextS_any (A : Option Addr) (c : Nat) (l : List Sp) (w : World) (hs : SlS w w.heap.size A l) (hl : l.length ≤ 6000) (hok : AllOk l) :
    Calls Tryd.prog 6 #[.slice A l.length c] w fun e w' => TextRd l e ∧ Below w.heap.size w w' := by
  by_cases hn : l = []
  · subst hn
    exact (refTextS_nil A c w).mono fun e w' ⟨h, hb⟩ => ⟨.inl ⟨setL_nil, h⟩, hb⟩
  · cases hset : setB l
    · exact (refTextS_no A c l w hs hl hset).mono fun e w' ⟨h, hb⟩ => ⟨.inr ⟨of_decide_eq_false hset, h⟩, hb⟩
    · refine (refTextS_yes A c l w hs hl hok hset hn).mono fun e w' ⟨h, hb⟩ => ⟨.inl ⟨of_decide_eq_true hset, ?_⟩, hb⟩
      rw [h]; unfold textT; rw [if_neg hn]

set_option maxRecDepth 100000 in
set_option maxHeartbeats 2000000 in
theorem textsL_any (A : Option Addr) (c : Nat) (l : List Sp) (s : ByteArray) (w : World) (hs : SlS w w.heap.size A l) (hok : AllOk l) (herr : Errs w) (htab : TabB w.heap.size w) :
    Calls Tryd.prog 3 #[.slice A l.length c, .string s] w fun e w' => e = .returned (.bool true) ∧ Below w.heap.size w w' := by
  have HS := Lib.hid hs
  have HOK := Lib.hid hok
  have HE := Lib.hid herr
  have HT := Lib.hid htab
  clear hs hok herr htab
  by_cases g1 : 100 < (l.length : Int)
  · go_enter Tryd.func3, Tryd.ntmps3
    go_wp2
    go_ret
    exact ⟨rfl, Below.refl _ _⟩
  by_cases g2 : 3000 < (s.size : Int)
  · go_enter Tryd.func3, Tryd.ntmps3
    go_wp2
    go_ret
    exact ⟨rfl, Below.refl _ _⟩
  have hl : l.length ≤ 100 := by omega
  have hz : s.size ≤ 3000 := by omega
  go_enter Tryd.func3, Tryd.ntmps3
  go_wp2_with fail
  clear g1 g2
  refine (textS_any A c l _ HS.out (by omega) HOK.out HT.out).mono ?_
  rintro e w1 ⟨ht, hb⟩
  have HB1 := Lib.hid hb
  clear hb
  obtain ⟨T, c1, hTe, rfl⟩ : ∃ (T : ByteArray) (c1 : Int), ((SetL l ∧ T = ⟨(textT l).toArray⟩ ∧ c1 = 0) ∨ (¬ SetL l ∧ T = ⟨#[]⟩ ∧ c1 = 30)) ∧ e = .returned (.tuple #[.string T, .int .i64 c1]) := by
    rcases ht with ⟨h1, rfl⟩ | ⟨h1, rfl⟩
    · exact ⟨_, _, .inl ⟨h1, rfl, rfl⟩, rfl⟩
    · exact ⟨_, _, .inr ⟨h1, rfl, rfl⟩, rfl⟩
  have HTE := Lib.hid hTe
  clear ht hTe
  go_wp2_with fail
  refine (refTextS_any A c l _ ((HS.out.next HB1.out (Nat.le_refl _)).more HB1.out.size) (by omega) HOK.out).mono ?_
  rintro e w2 ⟨ht, hb⟩
  have HB2 := Lib.hid (HB1.out.trans (hb.mono HB1.out.size))
  clear hb
  obtain rfl : e = .returned (.tuple #[.string T, .int .i64 c1]) := by
    rcases ht with ⟨h1, rfl⟩ | ⟨h1, rfl⟩
    · rcases HTE.out with ⟨_, rfl, rfl⟩ | ⟨h2, _, _⟩
      · rfl
      · exact absurd h1 h2
    · rcases HTE.out with ⟨h2, _, _⟩ | ⟨_, rfl, rfl⟩
      · exact absurd h2 h1
      · rfl
  clear ht HTE
  go_wp2_with fail
  refine (parse_any s _ (by omega) (errs_below HE.out HB2.out (Nat.le_refl _)) (tabB_on HT.out HB2.out)).mono ?_
  rintro e w3 ⟨hp, hb⟩
  have HB3 := Lib.hid (HB2.out.trans (hb.mono HB2.out.size))
  have hbz := hb.size
  clear hb
  rcases hp with ⟨m, v, rfl, ho, hm, hset, htx⟩ | ⟨rfl, hno⟩
  · obtain ⟨A3, k3, rfl, hsl, _, _⟩ := ho.sls
    have hml : m.length ≤ 3000 := by
      have h1 := congrArg List.length htx
      have h5 : (dl s).length = s.size := Array.length_toList
      by_cases hn : m = []
      · subst hn; simp
      · have h2 := bodyT_few hm
        unfold textT at h1
        rw [if_neg hn] at h1
        omega
    have HM := Lib.hid hm
    have HSET := Lib.hid hset
    have HTX := Lib.hid htx
    have HSL := Lib.hid hsl
    clear ho hm hset htx hsl
    go_wp2_with fail
    refine (refParseS_any s _ (by omega)).mono ?_
    rintro e w4 ⟨hp, hb⟩
    have HB4 := Lib.hid (HB3.out.trans (hb.mono HB3.out.size))
    have HSL4 := Lib.hid ((HSL.out.next hb (Nat.le_refl _)).more hb.size)
    clear hb
    rcases hp with ⟨m', v', rfl, ho, hm, hset, htx⟩ | ⟨rfl, hno⟩
    · obtain ⟨A4, k4, rfl, hsl4, _, _⟩ := ho.sls
      have e9 : m' = m := textT_inj hm HM.out (htx.trans HTX.out.symm)
      subst e9
      have HSL5 := Lib.hid hsl4
      clear ho hm hset htx hsl4
      go_wp2_with fail
      refine (sameS_any A3 A4 k3 k4 m' w4 w4.heap.size HSL4.out HSL5.out (by omega)).mono ?_
      rintro e w5 ⟨rfl, n5, rfl⟩
      have HB5 := Lib.hid (below_ind HB4.out n5)
      go_wp2
      go_ret
      exact ⟨rfl, HB5.out⟩
    · exact absurd HTX.out (hno m HM.out HSET.out)
  · have HNO := Lib.hid hno
    clear hno
    go_wp2_with fail
    refine (refParseS_any s _ (by omega)).mono ?_
    rintro e w4 ⟨hp, hb⟩
    have HB4 := Lib.hid (HB3.out.trans (hb.mono HB3.out.size))
    clear hb
    rcases hp with ⟨m', v', rfl, ho, hm, hset, htx⟩ | ⟨rfl, hno⟩
    · exact absurd htx (HNO.out m' hm hset)
    · clear hno
      go_wp2_with fail
      refine (sameS_any none none 0 0 [] w4 w4.heap.size (slS_nil _ _) (slS_nil _ _) (by decide)).mono ?_
      rintro e w5 ⟨rfl, n5, rfl⟩
      have HB5 := Lib.hid (below_ind HB4.out n5)
      go_wp2
      go_ret
      exact ⟨rfl, HB5.out⟩
end Go.Proofs.YtecolajhahmfcaaDoor
