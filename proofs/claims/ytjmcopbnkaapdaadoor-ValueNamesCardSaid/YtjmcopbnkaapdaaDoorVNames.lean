/-
  THE LAW ValueNames: its walk.
-/
import Derived.Test.YtjmcopbnkaapdaaDoorRefused
namespace Go.Proofs.YtjmcopbnkaapdaaDoor
open Go.RowKit Go.Shelf

theorem zeroEq (w : World) : (Op.equalIn 10000 23 (.agg #[.int .i64 0, .int .i64 0, .string ⟨#[]⟩]) (.agg #[.int .i64 0, .int .i64 0, .string ⟨#[]⟩])).run Tryd.prog w = .ok true w := neV 0 0 ⟨#[]⟩ w

set_option maxRecDepth 100000 in
set_option maxHeartbeats 1000000 in
theorem refused_any (s : ByteArray) (w : World) (hs : s.size ≤ maxLen) (herr : Errs w) (htab : Tab w) (h : NoTxt s.data.toList) :
    Calls Tryd.prog 11 #[.string s] w fun e w' => e = .returned (.int .i64 1) ∧ Below w.heap.size w w' := by
  have HE := Lib.hid herr
  have HT := Lib.hid htab
  have HH := Lib.hid h
  have HS := Lib.hid hs
  have hz := zeroEq
  clear herr htab h hs
  go_enter Tryd.func11, Tryd.ntmps11
  go_wp2_with fail
  refine (parse_any s _ HS.out HE.out HT.out).mono ?_
  rintro e w1 ⟨he, hb1⟩
  have he' : e = .returned (.tuple #[.agg #[.int .i64 0, .int .i64 0, .string ⟨#[]⟩], .int .i64 11]) := by
    rcases he with ⟨k, n, t, _, h1, h2, _, h4, _⟩ | ⟨rfl, _⟩
    · exact absurd h4 (HH.out k n t h1 h2)
    · rfl
  subst he'
  clear he
  have HB := Lib.hid hb1
  clear hb1
  go_wp2
  go_ret
  exact ⟨rfl, HB.out.trans ((Below.refl _ _).alloc HB.out.size _)⟩

theorem text_is (k n : Int) (s : ByteArray) (l : List UInt8) (w : World) (hs : s.size ≤ maxLen) (h0 : -9223372036854775808 ≤ n) (h1 : n ≤ 9223372036854775807) (htab : Tab w) (hm : mayB k n s = true) (hl : txtL k n s = l) :
    Calls Tryd.prog 7 #[.agg #[.int .i64 k, .int .i64 n, .string s]] w fun e w' => e = .returned (.tuple #[.string ⟨l.toArray⟩, .int .i64 0]) ∧ Below w.heap.size w w' := by
  refine (text_any k n s w hs h0 h1 htab).mono fun e w' ⟨h, hb⟩ => ⟨?_, hb⟩
  rcases h with ⟨_, rfl⟩ | ⟨h, _⟩
  · rw [hl]
  · rw [hm] at h; cases h
theorem text_not (k n : Int) (s : ByteArray) (w : World) (hs : s.size ≤ maxLen) (h0 : -9223372036854775808 ≤ n) (h1 : n ≤ 9223372036854775807) (htab : Tab w) (hm : mayB k n s = false) :
    Calls Tryd.prog 7 #[.agg #[.int .i64 k, .int .i64 n, .string s]] w fun e w' => e = .returned (.tuple #[.string ⟨#[]⟩, .int .i64 10]) ∧ Below w.heap.size w w' := by
  refine (text_any k n s w hs h0 h1 htab).mono fun e w' ⟨h, hb⟩ => ⟨?_, hb⟩
  rcases h with ⟨h, _⟩ | ⟨_, rfl⟩
  · rw [hm] at h; cases h
  · rfl
theorem parse_is (k n : Int) (t s : ByteArray) (w : World) (hs : s.size ≤ maxLen) (herr : Errs w) (htab : Tab w) (hm : mayB k n t = true) (hn : inI64 n) (hl : txtL k n t = s.data.toList) :
    Calls Tryd.prog 9 #[.string s] w fun e w' => e = .returned (.tuple #[.agg #[.int .i64 k, .int .i64 n, .string t], .int .i64 0]) ∧ Below w.heap.size w w' := by
  refine (parse_any s w hs herr htab).mono fun e w' ⟨h, hb⟩ => ⟨?_, hb⟩
  rcases h with ⟨k', n', t', rfl, _, _, _, _, hu⟩ | ⟨_, hno⟩
  · obtain ⟨rfl, rfl, rfl⟩ := hu k n t hm hn hl
    rfl
  · exact absurd hl (hno k n t hm hn)
theorem parse_not (s : ByteArray) (w : World) (hs : s.size ≤ maxLen) (herr : Errs w) (htab : Tab w) (hno : NoTxt s.data.toList) :
    Calls Tryd.prog 9 #[.string s] w fun e w' => e = .returned (.tuple #[.agg #[.int .i64 0, .int .i64 0, .string ⟨#[]⟩], .int .i64 11]) ∧ Below w.heap.size w w' := by
  refine (parse_any s w hs herr htab).mono fun e w' ⟨h, hb⟩ => ⟨?_, hb⟩
  rcases h with ⟨k, n, t, _, h1, h2, _, h4, _⟩ | ⟨rfl, _⟩
  · exact absurd h4 (hno k n t h1 h2)
  · rfl
theorem check_is (k n c : Int) (s : ByteArray) (w : World) (hs : s.size ≤ maxLen) (hc : checkN k n s = c) :
    Calls Tryd.prog 13 #[.agg #[.int .i64 k, .int .i64 n, .string s]] w fun e w' => e = .returned (.int .i64 c) ∧ Below w.heap.size w w' :=
  (check_any k n s w hs).mono fun e w' ⟨h, hb⟩ => ⟨by rw [h, hc], hb⟩
theorem itoa_7 : Lib.itoa 7 = [55] := by
  unfold Lib.itoa; rw [if_neg (by decide), show (7 : Int).toNat = 7 from rfl, Lib.decDigits, dif_pos (by decide)]; rfl
theorem itoa_0 : Lib.itoa 0 = [48] := by
  unfold Lib.itoa; rw [if_neg (by decide), show (0 : Int).toNat = 0 from rfl, Lib.decDigits, dif_pos (by decide)]; rfl
theorem itoa_min : Lib.itoa (-9223372036854775808) = [45, 57, 50, 50, 51, 51, 55, 50, 48, 51, 54, 56, 53, 52, 55, 55, 53, 56, 48, 56] := by
  simp [Lib.itoa, Lib.decDigits]

set_option maxRecDepth 100000 in
set_option maxHeartbeats 4000000 in
theorem names_any (w : World) (herr : Errs w) (htab : Tab w) :
    Calls Tryd.prog 4 #[] w fun e w' => e = .returned (.bool true) ∧ Below w.heap.size w w' := by
  have HE := Lib.hid herr
  have HT := Lib.hid htab
  have HB0 := Lib.hid (Below.refl w.heap.size w)
  clear herr htab
  go_enter Tryd.func4, Tryd.ntmps4
  go_wp2_with fail
  refine (text_is 2 1 ⟨#[]⟩ [116, 114, 117, 101] _ (by decide) (by decide) (by decide) (tab_below HT.out HB0.out) (by decide) (by decide +kernel)).mono ?_
  rintro e w1 ⟨rfl, hb⟩
  have HB1 := Lib.hid (HB0.out.trans (hb.mono HB0.out.size))
  clear hb HB0
  go_wp2_with fail
  refine (text_is 4 0 ⟨#[0, 255]⟩ [35, 48, 48, 102, 102] _ (by decide) (by decide) (by decide) (tab_below HT.out HB1.out) (by decide) (by decide +kernel)).mono ?_
  rintro e w2 ⟨rfl, hb⟩
  have HB2 := Lib.hid (HB1.out.trans (hb.mono HB1.out.size))
  clear hb HB1
  go_wp2_with fail
  refine (text_is 5 7 ⟨#[]⟩ [64, 55] _ (by decide) (by decide) (by decide) (tab_below HT.out HB2.out) (by decide) (by show 64 :: Lib.itoa 7 = _; rw [itoa_7])).mono ?_
  rintro e w3 ⟨rfl, hb⟩
  have HB3 := Lib.hid (HB2.out.trans (hb.mono HB2.out.size))
  clear hb HB2
  go_wp2_with fail
  refine (text_is 6 0 ⟨#[]⟩ [33, 48] _ (by decide) (by decide) (by decide) (tab_below HT.out HB3.out) (by decide) (by show 33 :: Lib.itoa 0 = _; rw [itoa_0])).mono ?_
  rintro e w4 ⟨rfl, hb⟩
  have HB4 := Lib.hid (HB3.out.trans (hb.mono HB3.out.size))
  clear hb HB3
  go_wp2_with fail
  refine (text_is 7 0 ⟨#[117, 115, 101, 114, 47, 110, 97, 109, 101]⟩ [58, 117, 115, 101, 114, 47, 110, 97, 109, 101] _ (by decide) (by decide) (by decide) (tab_below HT.out HB4.out) (by decide) (by decide +kernel)).mono ?_
  rintro e w5 ⟨rfl, hb⟩
  have HB5 := Lib.hid (HB4.out.trans (hb.mono HB4.out.size))
  clear hb HB4
  go_wp2_with fail
  refine (text_not 7 0 ⟨#[85, 115, 101, 114]⟩ _ (by decide) (by decide) (by decide) (tab_below HT.out HB5.out) (by decide)).mono ?_
  rintro e w6 ⟨rfl, hb⟩
  have HB6 := Lib.hid (HB5.out.trans (hb.mono HB5.out.size))
  clear hb HB5
  go_wp2_with fail
  refine (parse_is 1 (-9223372036854775808) ⟨#[]⟩ ⟨#[45, 57, 50, 50, 51, 51, 55, 50, 48, 51, 54, 56, 53, 52, 55, 55, 53, 56, 48, 56]⟩ _ (by decide) (errs_below HE.out HB6.out) (tab_below HT.out HB6.out) (by decide) (by unfold inI64; omega) (by show Lib.itoa (-9223372036854775808) = _; exact itoa_min)).mono ?_
  rintro e w7 ⟨rfl, hb⟩
  have HB7 := Lib.hid (HB6.out.trans (hb.mono HB6.out.size))
  clear hb HB6
  have HX7 := Lib.hid (box3_new w7 (.int .i64 1) (.int .i64 (-9223372036854775808)) (.string ⟨#[]⟩) 23)
  have HA7 := Lib.hid (HB7.out.trans (((Below.refl _ w7).alloc (Nat.le_refl _) (.cells #[.int .i64 1, .int .i64 (-9223372036854775808), .string ⟨#[]⟩] 23)).mono HB7.out.size))
  clear HB7
  go_wp2_with fail
  refine (parse_not ⟨#[57, 50, 50, 51, 51, 55, 50, 48, 51, 54, 56, 53, 52, 55, 55, 53, 56, 48, 56]⟩ _ (by decide) (errs_below HE.out HA7.out) (tab_below HT.out HA7.out) no_bigint).mono ?_
  rintro e w8 ⟨rfl, hb⟩
  have HX8 := Lib.hid (HX7.out.next hb (by simp))
  have HB8 := Lib.hid (HA7.out.trans (hb.mono HA7.out.size))
  have HZ8 : Hid (w7.heap.size < w8.heap.size) := by
    show w7.heap.size < w8.heap.size
    have := hb.size; simp at this; omega
  have HA8 := Lib.hid (HB8.out.trans (((Below.refl _ w8).alloc (Nat.le_refl _) (.cells #[.int .i64 0, .int .i64 0, .string ⟨#[]⟩] 23)).mono HB8.out.size))
  have hx := HX8.out.next ((Below.refl _ w8).alloc (Nat.le_refl _) (.cells #[.int .i64 0, .int .i64 0, .string ⟨#[]⟩] 23)) HZ8.out
  clear hb HA7 HX7 HX8 HB8
  have x0 := hx.c0
  have x1 := hx.c1
  have x2 := hx.c2
  clear hx
  have HB8 := HA8
  clear HA8
  go_wp2_with fail
  refine (refused_any ⟨#[45, 48]⟩ _ (by decide) (errs_below HE.out HB8.out) (tab_below HT.out HB8.out) no_negzero).mono ?_
  rintro e w9 ⟨rfl, hb⟩
  have HB9 := Lib.hid (HB8.out.trans (hb.mono HB8.out.size))
  clear hb HB8
  clear x0 x1 x2
  go_wp2_with fail
  refine (refused_any ⟨#[43, 49]⟩ _ (by decide) (errs_below HE.out HB9.out) (tab_below HT.out HB9.out) no_plus).mono ?_
  rintro e w10 ⟨rfl, hb⟩
  have HB10 := Lib.hid (HB9.out.trans (hb.mono HB9.out.size))
  clear hb HB9
  go_wp2_with fail
  refine (refused_any ⟨#[64, 45, 49]⟩ _ (by decide) (errs_below HE.out HB10.out) (tab_below HT.out HB10.out) no_negref).mono ?_
  rintro e w11 ⟨rfl, hb⟩
  have HB11 := Lib.hid (HB10.out.trans (hb.mono HB10.out.size))
  clear hb HB10
  go_wp2_with fail
  refine (refused_any ⟨#[34, 97]⟩ _ (by decide) (errs_below HE.out HB11.out) (tab_below HT.out HB11.out) no_open).mono ?_
  rintro e w12 ⟨rfl, hb⟩
  have HB12 := Lib.hid (HB11.out.trans (hb.mono HB11.out.size))
  clear hb HB11
  go_wp2_with fail
  refine (refused_any ⟨#[35, 48]⟩ _ (by decide) (errs_below HE.out HB12.out) (tab_below HT.out HB12.out) no_half).mono ?_
  rintro e w13 ⟨rfl, hb⟩
  have HB13 := Lib.hid (HB12.out.trans (hb.mono HB12.out.size))
  clear hb HB12
  go_wp2_with fail
  refine (refused_any ⟨#[58, 65]⟩ _ (by decide) (errs_below HE.out HB13.out) (tab_below HT.out HB13.out) no_upper).mono ?_
  rintro e w14 ⟨rfl, hb⟩
  have HB14 := Lib.hid (HB13.out.trans (hb.mono HB13.out.size))
  clear hb HB13
  go_wp2_with fail
  refine (refused_any ⟨#[34, 92, 54, 49, 34]⟩ _ (by decide) (errs_below HE.out HB14.out) (tab_below HT.out HB14.out) no_plainesc).mono ?_
  rintro e w15 ⟨rfl, hb⟩
  have HB15 := Lib.hid (HB14.out.trans (hb.mono HB14.out.size))
  clear hb HB14
  go_wp2_with fail
  refine (refused_any ⟨#[]⟩ _ (by decide) (errs_below HE.out HB15.out) (tab_below HT.out HB15.out) no_empty).mono ?_
  rintro e w16 ⟨rfl, hb⟩
  have HB16 := Lib.hid (HB15.out.trans (hb.mono HB15.out.size))
  clear hb HB15
  go_wp2_with fail
  refine (refused_any ⟨#[34]⟩ _ (by decide) (errs_below HE.out HB16.out) (tab_below HT.out HB16.out) no_quote).mono ?_
  rintro e w17 ⟨rfl, hb⟩
  have HB17 := Lib.hid (HB16.out.trans (hb.mono HB16.out.size))
  clear hb HB16
  go_wp2_with fail
  refine (refused_any ⟨#[64, 57, 48, 48, 55, 49, 57, 57, 50, 53, 52, 55, 52, 48, 57, 57, 50]⟩ _ (by decide) (errs_below HE.out HB17.out) (tab_below HT.out HB17.out) no_bigref).mono ?_
  rintro e w18 ⟨rfl, hb⟩
  have HB18 := Lib.hid (HB17.out.trans (hb.mono HB17.out.size))
  clear hb HB17
  go_wp2_with fail
  refine (alive_any _ (tab_below HT.out HB18.out)).mono ?_
  rintro e w19 ⟨rfl, hb⟩
  have HB19 := Lib.hid (HB18.out.trans (hb.mono HB18.out.size))
  clear hb HB18
  go_wp2_with fail
  refine (check_is 0 0 10 ⟨#[]⟩ _ (by decide) (by decide)).mono ?_
  rintro e w20 ⟨rfl, hb⟩
  have HB20 := Lib.hid (HB19.out.trans (hb.mono HB19.out.size))
  clear hb HB19
  go_wp2_with fail
  refine (check_is 2 2 10 ⟨#[]⟩ _ (by decide) (by decide)).mono ?_
  rintro e w21 ⟨rfl, hb⟩
  have HB21 := Lib.hid (HB20.out.trans (hb.mono HB20.out.size))
  clear hb HB20
  go_wp2
  go_ret
  exact ⟨rfl, HB21.out⟩

end Go.Proofs.YtjmcopbnkaapdaaDoor
