/-
  CONTRACT: Parse (any text); THE LAW SpanBack: its walk.
-/
import Derived.Test.YtecolajhahmfcaaDoorSParse
import Derived.Test.YtecolajhahmfcaaDoorSAlive
import Derived.Test.YtecolajhahmfcaaDoorSSame
namespace Go.Proofs.YtecolajhahmfcaaDoor
open Go.RowKit Go.Shelf

set_option maxRecDepth 100000 in
theorem parse_none (s : ByteArray) (w : World) (h : dl s = [110, 111, 110, 101]) : Calls Tryd.prog 7 #[.string s] w (ParseRd w (dl s)) := by
  have hq : (s.toList == [110, 111, 110, 101]) = true := by
    rw [beq_iff_eq, ByteArray.toList_eq]; exact h
  have HH := Lib.hid h
  clear h
  go_enter Tryd.func7, Tryd.ntmps7
  go_wp2
  refine bodyPost_ret (v := .tuple #[.slice none 0 0, .int .i64 0]) ?_ rfl ⟨.inl ⟨[], _, rfl, ownS_nil _ _, (fun _ h => by cases h), setL_nil, by rw [HH.out]; rfl⟩, ?_⟩
  · rw [sp_results2 rfl]; go_simp
  · exact ((Below.refl _ w).alloc (Nat.le_refl _) _).alloc (by simp) _
theorem parse_any (s : ByteArray) (w : World) (hs : s.size ≤ 5000) (herr : Errs w) (htab : TabB w.heap.size w) : Calls Tryd.prog 7 #[.string s] w (ParseRd w (dl s)) := by
  by_cases h : dl s = [110, 111, 110, 101]
  · exact parse_none s w h
  · exact (callsIn_wide (n := 9)).1 (parse_in 9 (Lib.hid (by decide)) s w hs herr htab h)
theorem tabB_on {w W : World} (h : TabB w.heap.size w) (hb : Below w.heap.size w W) : TabB W.heap.size W := fun w' h' => h w' (hb.trans (h'.mono hb.size))

set_option maxRecDepth 100000 in
set_option maxHeartbeats 2000000 in
theorem backL_any (A : Option Addr) (c : Nat) (l : List Sp) (s : ByteArray) (w : World) (hs : SlS w w.heap.size A l) (hok : AllOk l) (herr : Errs w) (htab : TabB w.heap.size w) :
    Calls Tryd.prog 4 #[.slice A l.length c, .string s] w fun e w' => e = .returned (.bool true) ∧ Below w.heap.size w w' := by
  have HS := Lib.hid hs
  have HOK := Lib.hid hok
  have HE := Lib.hid herr
  have HT := Lib.hid htab
  clear hs hok herr htab
  by_cases g1 : 100 < (l.length : Int)
  · go_enter Tryd.func4, Tryd.ntmps4
    go_wp2_with fail
    refine (aliveS_any _).mono ?_
    rintro e w1 ⟨rfl, hb⟩
    go_wp2
    go_ret
    exact ⟨rfl, hb⟩
  by_cases g2 : 3000 < (s.size : Int)
  · go_enter Tryd.func4, Tryd.ntmps4
    go_wp2_with fail
    refine (aliveS_any _).mono ?_
    rintro e w1 ⟨rfl, hb⟩
    go_wp2
    go_ret
    exact ⟨rfl, hb⟩
  have hl : l.length ≤ 100 := by omega
  have hz : s.size ≤ 3000 := by omega
  go_enter Tryd.func4, Tryd.ntmps4
  go_wp2_with fail
  refine (aliveS_any _).mono ?_
  rintro e w1 ⟨rfl, hb⟩
  have HB1 := Lib.hid hb
  clear hb
  go_wp2_with fail
  clear g1 g2
  refine (textS_any A c l _ ((HS.out.next HB1.out (Nat.le_refl _)).more HB1.out.size) (by omega) HOK.out (tabB_on HT.out HB1.out)).mono ?_
  rintro e w2 ⟨ht, hb⟩
  have HB2 := Lib.hid (HB1.out.trans (hb.mono HB1.out.size))
  clear hb
  obtain ⟨T, c1, hTe, rfl⟩ : ∃ (T : ByteArray) (c1 : Int), ((SetL l ∧ T.data.toList = textT l ∧ c1 = 0) ∨ (¬ SetL l ∧ T = ⟨#[]⟩ ∧ c1 = 30)) ∧ e = .returned (.tuple #[.string T, .int .i64 c1]) := by
    rcases ht with ⟨h1, rfl⟩ | ⟨h1, rfl⟩
    · exact ⟨_, _, .inl ⟨h1, rfl, rfl⟩, rfl⟩
    · exact ⟨_, _, .inr ⟨h1, rfl, rfl⟩, rfl⟩
  have hTz : T.size ≤ 5000 := by
    rcases hTe with ⟨_, h1, _⟩ | ⟨_, rfl, _⟩
    · have h2 := textT_len HOK.out
      have h3 : T.data.toList.length = T.size := Array.length_toList
      rw [h1] at h3
      omega
    · exact Nat.zero_le _
  have HTE := Lib.hid hTe
  clear ht hTe
  go_wp2_with fail
  refine (parse_any T _ hTz (errs_below HE.out HB2.out (Nat.le_refl _)) (tabB_on HT.out HB2.out)).mono ?_
  rintro e w3 ⟨hp, hb⟩
  have HB3 := Lib.hid (HB2.out.trans (hb.mono HB2.out.size))
  have HS3 := Lib.hid ((HS.out.next HB3.out (Nat.le_refl _)).more HB3.out.size)
  clear hb
  obtain ⟨A2, k2, n2, c2, hPe, rfl⟩ : ∃ (A2 : Option Addr) (k2 n2 : Nat) (c2 : Int), ((c1 = 0 ∧ c2 = 0 ∧ n2 = l.length ∧ Hid (SlS w3 w3.heap.size A2 l)) ∨ c1 = 30) ∧ e = .returned (.tuple #[.slice A2 n2 k2, .int .i64 c2]) := by
    rcases hp with ⟨m, v, rfl, ho, hm, hset, htx⟩ | ⟨rfl, hno⟩
    · obtain ⟨A2, k2, rfl, hsl, _, _⟩ := ho.sls
      refine ⟨A2, k2, m.length, 0, ?_, rfl⟩
      rcases HTE.out with ⟨h1, h2, h3⟩ | ⟨_, _, h3⟩
      · have e9 : m = l := textT_inj hm HOK.out (htx.trans h2)
        subst e9
        exact .inl ⟨h3, rfl, rfl, hsl⟩
      · exact .inr h3
    · refine ⟨none, 0, 0, 30, ?_, rfl⟩
      rcases HTE.out with ⟨h1, h2, h3⟩ | ⟨_, _, h3⟩
      · exact absurd h2.symm (hno l HOK.out h1)
      · exact .inr h3
  clear hp HTE hTz
  rcases hPe with ⟨rfl, rfl, rfl, hs2⟩ | rfl
  · go_wp2_with fail
    refine (sameS_any A A2 c k2 l w3 w3.heap.size HS3.out hs2.out (by omega)).mono ?_
    rintro e w4 ⟨rfl, n4, rfl⟩
    have HB4 := Lib.hid (below_ind HB3.out n4)
    clear hs2 HS3
    go_wp2_with fail
    refine (parse_any s _ (by omega) (errs_below HE.out HB4.out (Nat.le_refl _)) (tabB_on HT.out HB4.out)).mono ?_
    rintro e w5 ⟨hp, hb⟩
    have HB5 := Lib.hid (HB4.out.trans (hb.mono HB4.out.size))
    clear hb
    rcases hp with ⟨m, v, rfl, ho, hm, hset, htx⟩ | ⟨rfl, hno⟩
    · obtain ⟨A3, k3, rfl, hsl, _, _⟩ := ho.sls
      have hml : m.length ≤ 3000 := by
        have h1 := congrArg List.length htx
        have h5 : (dl s).length = s.size := Array.length_toList
        by_cases hn : m = []
        · subst hn; simp
        · have h2 := bodyT_few hm
          unfold textT at h1
          rw [if_neg hn] at h1
          omega
      have HM := Lib.hid hm
      have HSET := Lib.hid hset
      have HTX := Lib.hid htx
      have HSL := Lib.hid hsl
      clear ho hm hset htx hsl
      go_wp2_with fail
      refine (textS_any A3 k3 m _ HSL.out (by omega) HM.out (tabB_on HT.out HB5.out)).mono ?_
      rintro e w6 ⟨ht, hb⟩
      have HB6 := Lib.hid (HB5.out.trans (hb.mono HB5.out.size))
      clear hb
      rcases ht with ⟨_, rfl⟩ | ⟨h1, _⟩
      · obtain ⟨U, hU⟩ : ∃ U : ByteArray, (⟨(textT m).toArray⟩ : ByteArray) = U := ⟨_, rfl⟩
        rw [hU]
        have hq : (U.toList == s.toList) = true := by
          rw [beq_iff_eq, ByteArray.toList_eq, ByteArray.toList_eq, ← hU]; exact HTX.out
        clear hU
        go_wp2
        go_ret
        exact ⟨rfl, HB6.out⟩
      · exact absurd HSET.out h1
    · clear hno
      go_wp2_with fail
      refine (textS_any none 0 [] _ (slS_nil _ _) (by decide) (fun _ h => by cases h) (tabB_on HT.out HB5.out)).mono ?_
      rintro e w6 ⟨ht, hb⟩
      have HB6 := Lib.hid (HB5.out.trans (hb.mono HB5.out.size))
      clear hb
      rcases ht with ⟨_, rfl⟩ | ⟨h1, _⟩
      · go_wp2
        go_ret
        exact ⟨rfl, HB6.out⟩
      · exact absurd setL_nil h1
  · have HB4 := HB3
    clear HS3
    go_wp2_with fail
    refine (parse_any s _ (by omega) (errs_below HE.out HB4.out (Nat.le_refl _)) (tabB_on HT.out HB4.out)).mono ?_
    rintro e w5 ⟨hp, hb⟩
    have HB5 := Lib.hid (HB4.out.trans (hb.mono HB4.out.size))
    clear hb
    rcases hp with ⟨m, v, rfl, ho, hm, hset, htx⟩ | ⟨rfl, hno⟩
    · obtain ⟨A3, k3, rfl, hsl, _, _⟩ := ho.sls
      have hml : m.length ≤ 3000 := by
        have h1 := congrArg List.length htx
        have h5 : (dl s).length = s.size := Array.length_toList
        by_cases hn : m = []
        · subst hn; simp
        · have h2 := bodyT_few hm
          unfold textT at h1
          rw [if_neg hn] at h1
          omega
      have HM := Lib.hid hm
      have HSET := Lib.hid hset
      have HTX := Lib.hid htx
      have HSL := Lib.hid hsl
      clear ho hm hset htx hsl
      go_wp2_with fail
      refine (textS_any A3 k3 m _ HSL.out (by omega) HM.out (tabB_on HT.out HB5.out)).mono ?_
      rintro e w6 ⟨ht, hb⟩
      have HB6 := Lib.hid (HB5.out.trans (hb.mono HB5.out.size))
      clear hb
      rcases ht with ⟨_, rfl⟩ | ⟨h1, _⟩
      · obtain ⟨U, hU⟩ : ∃ U : ByteArray, (⟨(textT m).toArray⟩ : ByteArray) = U := ⟨_, rfl⟩
        rw [hU]
        have hq : (U.toList == s.toList) = true := by
          rw [beq_iff_eq, ByteArray.toList_eq, ByteArray.toList_eq, ← hU]; exact HTX.out
        clear hU
        go_wp2
        go_ret
        exact ⟨rfl, HB6.out⟩
      · exact absurd HSET.out h1
    · clear hno
      go_wp2_with fail
      refine (textS_any none 0 [] _ (slS_nil _ _) (by decide) (fun _ h => by cases h) (tabB_on HT.out HB5.out)).mono ?_
      rintro e w6 ⟨ht, hb⟩
      have HB6 := Lib.hid (HB5.out.trans (hb.mono HB5.out.size))
      clear hb
      rcases ht with ⟨_, rfl⟩ | ⟨h1, _⟩
      · go_wp2
        go_ret
        exact ⟨rfl, HB6.out⟩
      · exact absurd setL_nil h1
end Go.Proofs.YtecolajhahmfcaaDoor
