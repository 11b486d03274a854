/-
  THE LAW SpanNames.
-/
import Derived.Test.YtfonmgpkbgdniaaGreatDoorJSNamesP
import Derived.Test.YtfonmgpkbgdniaaGreatDoorJSBackL
import Derived.Test.YtfonmgpkbgdniaaGreatDoorJSLaw
import Derived.Test.YtfonmgpkbgdniaaGreatDoorJSCovA
import Derived.Test.YtfonmgpkbgdniaaGreatDoorJSCov
import Derived.Test.YtfonmgpkbgdniaaGreatDoorJSText
namespace Go.Proofs.YtfonmgpkbgdniaaGreatDoor
open Go.RowKit Go.Shelf

/-- two cells that stand -/
def Cel (W : World) (b o : Nat) (x y : Int) : Prop := b < W.heap.size ∧ W.cell? ⟨b, o, none⟩ = some (.int .i64 x) ∧ W.cell? ⟨b, o + 1, none⟩ = some (.int .i64 y)
theorem Cel.next {W W' : World} {b o : Nat} {x y : Int} (h : Cel W b o x y) (hb : Below W.heap.size W W') : Cel W' b o x y :=
  ⟨Nat.lt_of_lt_of_le h.1 hb.size, (hb.cell (p := ⟨b, o, none⟩) h.1).trans h.2.1, (hb.cell (p := ⟨b, o + 1, none⟩) h.1).trans h.2.2⟩
theorem slS_new {W : World} {cs : Array Value} {t : TypeId} {l : List Sp} (h : cs.toList = l.flatMap cellsS) : SlS (W.alloc (.cells cs t)) (W.alloc (.cells cs t)).heap.size (some ⟨W.heap.size, 0, none⟩) l := (slS_lit h).more (by simp)
theorem one_ex {W W' : World} {f : Nat → Bool} {g : Bool → Bool → Bool} {a b : List Sp} {e : Ending} {x y : Int} (h : ChEnd W f a b e W') (hg : g false false = false) (hfg : ∀ x y, decide (wants f x y) = g x y) (hka : ∀ s ∈ a, SpOk s) (hkb : ∀ s ∈ b, SpOk s) (ht : twoL g a b = [(x, y)]) (he : twoE a b = 0) :
    ∃ q o c, e = .returned (.tuple #[.slice (some ⟨q, o, none⟩) 1 c, .int .i64 0]) ∧ Cel W' q o x y ∧ Below W.heap.size W W' := by
  obtain ⟨A, c, h1, h2, h3⟩ := chEnd_two h hg hfg hka hkb
  rw [ht, he] at h1
  rw [ht] at h2
  obtain ⟨q, o, rfl, hlt, hc⟩ := h2 (by simp)
  have h0 := hc 0 _ rfl
  exact ⟨q, o, c, h1, ⟨hlt, by have := h0.c0; simpa using this, by have := h0.c1; simpa using this⟩, h3⟩
theorem text_ex {l : List Sp} {bs : Array UInt8} {e : Ending} (h : TextRd l e) (hs : SetL l) (ht : (textT l).toArray = bs) : e = .returned (.tuple #[.string ⟨bs⟩, .int .i64 0]) := by
  rcases h with ⟨_, h⟩ | ⟨h, _⟩
  · rw [h, ht]
  · exact absurd hs h
set_option maxRecDepth 100000 in
set_option maxHeartbeats 1000000 in
theorem refused_any (s : ByteArray) (w : World) (hs : s.size ≤ 5000) (hn : ∀ l, AllOk l → SetL l → textT l ≠ dl s) (herr : Errs w) (htab : TabB w.heap.size w) :
    Calls Tryz.prog 8 #[.string s] w fun e w' => e = .returned (.int .i64 1) ∧ Below w.heap.size w w' := by
  have HP := Lib.hid (parse_any s w hs herr htab)
  have HN := Lib.hid hn
  clear herr htab hn hs
  go_enter Tryz.func8, Tryz.ntmps8
  go_wp2_with fail
  refine HP.out.mono ?_
  rintro e w1 ⟨⟨l, v, _, _, hok, hset, ht⟩ | ⟨rfl, _⟩, hb⟩
  · exact absurd ht (HN.out l hok hset)
  · have HB := Lib.hid hb
    clear hb
    go_wp2
    go_ret
    exact ⟨rfl, HB.out⟩
theorem okA : ∀ s ∈ ([(1, 5)] : List Sp), SpOk s := fun s h => by rw [List.mem_singleton.1 h]; exact ok_nums (by decide) (by decide)
theorem okB9 : ∀ s ∈ ([(3, 9)] : List Sp), SpOk s := fun s h => by rw [List.mem_singleton.1 h]; exact ok_nums (by decide) (by decide)
theorem okN : ∀ s ∈ ([] : List Sp), SpOk s := fun s h => by cases h
theorem okT1 : AllOk [(minT, maxT)] := fun s h => by rw [List.mem_singleton.1 h]; unfold SpOk minT maxT; simp only; omega
theorem okT2 : AllOk [(1, 5), (7, maxT)] := fun s h => by
  rcases List.mem_cons.1 h with rfl | h
  · exact ok_nums (by decide) (by decide)
  · rw [List.mem_singleton.1 h]; unfold SpOk minT maxT; simp only; omega
set_option maxRecDepth 100000 in
set_option maxHeartbeats 8000000 in
theorem sNames_any (w : World) (herr : Errs w) (htab : TabB w.heap.size w) :
    Calls Tryz.prog 3 #[] w fun e w' => e = .returned (.bool true) ∧ Below w.heap.size w w' := by
  have HE := Lib.hid (fun W (h : Below w.heap.size w W) => errs_below herr h (Nat.le_refl _))
  have HT := Lib.hid (fun W (h : Below w.heap.size w W) => tabB_on htab h)
  clear herr htab
  obtain ⟨w2, hw2⟩ : ∃ w2, (w.alloc (.cells #[.int .i64 1, .int .i64 5] 23)).alloc (.cells #[.int .i64 3, .int .i64 9] 23) = w2 := ⟨_, rfl⟩
  have hb1 := (Below.refl w.heap.size w).alloc (Nat.le_refl _) (.cells #[.int .i64 1, .int .i64 5] 23)
  have HB2 : Hid (Below w.heap.size w w2) := by rw [← hw2]; exact hb1.alloc (by simp) _
  have HA2 : Hid (SlS w2 w2.heap.size (some ⟨w.heap.size, 0, none⟩) [(1, 5)]) := by
    rw [← hw2]
    have h := slS_lit (W := w) (t := 23) (cs := #[.int .i64 1, .int .i64 5]) (l := [(1, 5)]) rfl
    exact (h.next ((Below.refl _ _).alloc (Nat.le_refl _) _) (by simp)).more (by simp)
  have HC2 : Hid (SlS w2 w2.heap.size (some ⟨w.heap.size + 1, 0, none⟩) [(3, 9)]) := by
    rw [← hw2]
    have h := slS_lit (W := w.alloc (.cells #[.int .i64 1, .int .i64 5] 23)) (t := 23) (cs := #[.int .i64 3, .int .i64 9]) (l := [(3, 9)]) rfl
    have e : (w.alloc (.cells #[.int .i64 1, .int .i64 5] 23)).heap.size = w.heap.size + 1 := by simp
    rw [e] at h
    exact h.more (by simp)
  have hq1 := eqSp (1, 9)
  have hq2 := eqSp (3, 5)
  have hq3 := eqSp (1, 3)
  simp only at hq1 hq2 hq3
  clear hb1
  go_enter Tryz.func3, Tryz.ntmps3
  go_upto_region 3 with (fail)
  try rw [hw2]
  clear hw2
  go_wp2_with fail
  refine (spanOr_any _ _ 1 1 [(1, 5)] [(3, 9)] w2 HA2.out HC2.out (by decide) (by decide) (by decide) (by decide) (by decide) okA okB9).mono ?_
  rintro e w3 h
  obtain ⟨q3, o3, c3, rfl, hc3, hb⟩ := one_ex (g := orF) (x := 1) (y := 9) h rfl wantsOr_is okA okB9 (by decide +kernel) (by decide +kernel)
  have HB3 := Lib.hid (HB2.out.trans (hb.mono HB2.out.size))
  have HA3 := Lib.hid ((HA2.out.next hb (Nat.le_refl _)).more hb.size)
  have HC3 := Lib.hid ((HC2.out.next hb (Nat.le_refl _)).more hb.size)
  have HX3 := Lib.hid hc3
  clear h hc3 hb
  go_wp2_with fail
  refine (spanAnd_any _ _ 1 1 [(1, 5)] [(3, 9)] w3 HA3.out HC3.out (by decide) (by decide) (by decide) (by decide) (by decide) okA okB9).mono ?_
  rintro e w4 h
  obtain ⟨q4, o4, c4, rfl, hc4, hb⟩ := one_ex (g := andF) (x := 3) (y := 5) h rfl wantsAnd_is okA okB9 (by decide +kernel) (by decide +kernel)
  have HB4 := Lib.hid (HB3.out.trans (hb.mono HB3.out.size))
  have HA4 := Lib.hid ((HA3.out.next hb (Nat.le_refl _)).more hb.size)
  have HC4 := Lib.hid ((HC3.out.next hb (Nat.le_refl _)).more hb.size)
  have HX4 := Lib.hid (HX3.out.next hb)
  have HY4 := Lib.hid hc4
  clear h hc4 hb
  go_wp2_with fail
  refine (spanMinus_any _ _ 1 1 [(1, 5)] [(3, 9)] w4 HA4.out HC4.out (by decide) (by decide) (by decide) (by decide) (by decide) okA okB9).mono ?_
  rintro e w5 h
  obtain ⟨q5, o5, c5, rfl, hc5, hb⟩ := one_ex (g := notF) (x := 1) (y := 3) h rfl wantsMinus_is okA okB9 (by decide +kernel) (by decide +kernel)
  have HB5 := Lib.hid (HB4.out.trans (hb.mono HB4.out.size))
  have HA5 := Lib.hid ((HA4.out.next hb (Nat.le_refl _)).more hb.size)
  have HX5 := Lib.hid (HX4.out.next hb)
  have HY5 := Lib.hid (HY4.out.next hb)
  have HZ5 := Lib.hid hc5
  clear h hc5 hb
  have hb6 := (Below.refl w5.heap.size w5).alloc (Nat.le_refl _) (.cells #[.int .i64 (-9223372036854775808), .int .i64 9223372036854775807] 23)
  have hl6 := slS_new (W := w5) (t := 23) (cs := #[.int .i64 (-9223372036854775808), .int .i64 9223372036854775807]) (l := [(minT, maxT)]) rfl
  have HB6 := Lib.hid (HB5.out.trans (hb6.mono HB5.out.size))
  have HA6 := Lib.hid ((HA5.out.next hb6 (Nat.le_refl _)).more hb6.size)
  have HX6 := Lib.hid (HX5.out.next hb6)
  have HY6 := Lib.hid (HY5.out.next hb6)
  have HZ6 := Lib.hid (HZ5.out.next hb6)
  have HL6 := Lib.hid hl6
  clear hb6 hl6
  go_wp2_with fail
  refine (textS_any _ 1 [(minT, maxT)] _ HL6.out (by decide) okT1 (HT.out _ HB6.out)).mono ?_
  rintro e w7 ⟨h, hb⟩
  obtain rfl := text_ex (bs := #[91, 45, 44, 43, 41]) h (by decide) (by rw [text_all])
  have HB7 := Lib.hid (HB6.out.trans (hb.mono HB6.out.size))
  have HA7 := Lib.hid ((HA6.out.next hb (Nat.le_refl _)).more hb.size)
  have HX7 := Lib.hid (HX6.out.next hb)
  have HY7 := Lib.hid (HY6.out.next hb)
  have HZ7 := Lib.hid (HZ6.out.next hb)
  clear h hb
  have hb8 := (Below.refl w7.heap.size w7).alloc (Nat.le_refl _) (.cells #[.int .i64 1, .int .i64 5, .int .i64 7, .int .i64 9223372036854775807] 23)
  have hl8 := slS_new (W := w7) (t := 23) (cs := #[.int .i64 1, .int .i64 5, .int .i64 7, .int .i64 9223372036854775807]) (l := [(1, 5), (7, maxT)]) rfl
  have HB8 := Lib.hid (HB7.out.trans (hb8.mono HB7.out.size))
  have HA8 := Lib.hid ((HA7.out.next hb8 (Nat.le_refl _)).more hb8.size)
  have HX8 := Lib.hid (HX7.out.next hb8)
  have HY8 := Lib.hid (HY7.out.next hb8)
  have HZ8 := Lib.hid (HZ7.out.next hb8)
  have HL8 := Lib.hid hl8
  clear hb8 hl8
  go_wp2_with fail
  refine (textS_any _ 2 [(1, 5), (7, maxT)] _ HL8.out (by decide) okT2 (HT.out _ HB8.out)).mono ?_
  rintro e w9 ⟨h, hb⟩
  obtain rfl := text_ex (bs := #[91, 49, 44, 53, 41, 32, 91, 55, 44, 43, 41]) h (by decide) (by rw [text_two])
  have HB9 := Lib.hid (HB8.out.trans (hb.mono HB8.out.size))
  have HA9 := Lib.hid ((HA8.out.next hb (Nat.le_refl _)).more hb.size)
  have HX9 := Lib.hid (HX8.out.next hb)
  have HY9 := Lib.hid (HY8.out.next hb)
  have HZ9 := Lib.hid (HZ8.out.next hb)
  clear h hb
  go_wp2_with fail
  refine (textS_any none 0 [] w9 (fun h => absurd rfl h) (by decide) okN (HT.out _ HB9.out)).mono ?_
  rintro e wa ⟨h, hb⟩
  obtain rfl := text_ex (bs := #[110, 111, 110, 101]) h setL_nil (by rw [text_nil])
  have HBa := Lib.hid (HB9.out.trans (hb.mono HB9.out.size))
  have HAa := Lib.hid ((HA9.out.next hb (Nat.le_refl _)).more hb.size)
  have HXa := Lib.hid (HX9.out.next hb)
  have HYa := Lib.hid (HY9.out.next hb)
  have HZa := Lib.hid (HZ9.out.next hb)
  clear h hb
  have x0 := HXa.out.2.1
  have x1 := HXa.out.2.2
  have y0 := HYa.out.2.1
  have y1 := HYa.out.2.2
  have z0 := HZa.out.2.1
  have z1 := HZa.out.2.2
  go_wp2_with fail
  refine (refused_any ⟨#[91, 53, 44, 49, 41]⟩ _ (by decide) no_1 (HE.out _ HBa.out) (HT.out _ HBa.out)).mono ?_
  rintro e wb ⟨rfl, hb⟩
  have HBb := Lib.hid (HBa.out.trans (hb.mono HBa.out.size))
  have HAb := Lib.hid ((HAa.out.next hb (Nat.le_refl _)).more hb.size)
  clear hb x0 x1 y0 y1 z0 z1
  go_wp2_with fail
  refine (refused_any ⟨#[91, 49, 44, 53, 41, 91, 55, 44, 57, 41]⟩ _ (by decide) no_2 (HE.out _ HBb.out) (HT.out _ HBb.out)).mono ?_
  rintro e wc ⟨rfl, hb⟩
  have HBc := Lib.hid (HBb.out.trans (hb.mono HBb.out.size))
  have HAc := Lib.hid ((HAb.out.next hb (Nat.le_refl _)).more hb.size)
  clear hb
  go_wp2_with fail
  refine (refused_any ⟨#[91, 49, 44, 53, 41, 32, 91, 53, 44, 57, 41]⟩ _ (by decide) no_3 (HE.out _ HBc.out) (HT.out _ HBc.out)).mono ?_
  rintro e wd ⟨rfl, hb⟩
  have HBd := Lib.hid (HBc.out.trans (hb.mono HBc.out.size))
  have HAd := Lib.hid ((HAc.out.next hb (Nat.le_refl _)).more hb.size)
  clear hb
  go_wp2_with fail
  refine (refused_any ⟨#[]⟩ _ (by decide) no_4 (HE.out _ HBd.out) (HT.out _ HBd.out)).mono ?_
  rintro e we ⟨rfl, hb⟩
  have HBe := Lib.hid (HBd.out.trans (hb.mono HBd.out.size))
  have HAe := Lib.hid ((HAd.out.next hb (Nat.le_refl _)).more hb.size)
  clear hb
  go_wp2_with fail
  refine (refused_any ⟨#[91, 49, 44, 53, 41, 32]⟩ _ (by decide) no_5 (HE.out _ HBe.out) (HT.out _ HBe.out)).mono ?_
  rintro e wf ⟨rfl, hb⟩
  have HBf := Lib.hid (HBe.out.trans (hb.mono HBe.out.size))
  have HAf := Lib.hid ((HAe.out.next hb (Nat.le_refl _)).more hb.size)
  clear hb
  go_wp2_with fail
  refine (refused_any ⟨#[91, 45, 57, 50, 50, 51, 51, 55, 50, 48, 51, 54, 56, 53, 52, 55, 55, 53, 56, 48, 56, 44, 53, 41]⟩ _ (by decide) no_6 (HE.out _ HBf.out) (HT.out _ HBf.out)).mono ?_
  rintro e wg ⟨rfl, hb⟩
  have HBg := Lib.hid (HBf.out.trans (hb.mono HBf.out.size))
  have HAg := Lib.hid ((HAf.out.next hb (Nat.le_refl _)).more hb.size)
  clear hb
  go_wp2_with fail
  refine (refused_any ⟨#[91, 48, 49, 44, 53, 41]⟩ _ (by decide) no_7 (HE.out _ HBg.out) (HT.out _ HBg.out)).mono ?_
  rintro e wh ⟨rfl, hb⟩
  have HBh := Lib.hid (HBg.out.trans (hb.mono HBg.out.size))
  have HAh := Lib.hid ((HAg.out.next hb (Nat.le_refl _)).more hb.size)
  clear hb
  go_wp2_with fail
  refine (aliveS_any _).mono ?_
  rintro e wi ⟨rfl, hb⟩
  have HBi := Lib.hid (HBh.out.trans (hb.mono HBh.out.size))
  have HAi := Lib.hid ((HAh.out.next hb (Nat.le_refl _)).more hb.size)
  clear hb
  have hbj := (Below.refl wi.heap.size wi).alloc (Nat.le_refl _) (.cells #[.int .i64 0, .int .i64 0] 23)
  have hlj := slS_new (W := wi) (t := 23) (cs := #[.int .i64 0, .int .i64 0]) (l := [(0, 0)]) rfl
  have HBj := Lib.hid (HBi.out.trans (hbj.mono HBi.out.size))
  have HAj := Lib.hid ((HAi.out.next hbj (Nat.le_refl _)).more hbj.size)
  have HCK := Lib.hid (checkS_any (some ⟨wi.heap.size, 0, none⟩) 1 [(0, 0)] _ hlj (by decide))
  have hset0 : setB [(0, 0)] = false := by decide
  rw [hset0] at HCK
  clear hbj hlj hset0
  go_wp2_with fail
  refine HCK.out.mono ?_
  rintro e wk ⟨rfl, hb⟩
  have HBk := Lib.hid (HBj.out.trans (hb.mono HBj.out.size))
  have HAk := Lib.hid ((HAj.out.next hb (Nat.le_refl _)).more hb.size)
  clear hb HCK
  have hbl := (Below.refl wk.heap.size wk).alloc (Nat.le_refl _) (.cells #[.int .i64 1, .int .i64 5] 23)
  have hll := slS_new (W := wk) (t := 23) (cs := #[.int .i64 1, .int .i64 5]) (l := [(1, 5)]) rfl
  have HBl := Lib.hid (HBk.out.trans (hbl.mono HBk.out.size))
  have HAl := Lib.hid ((HAk.out.next hbl (Nat.le_refl _)).more hbl.size)
  have HHS := Lib.hid (hasS_any (some ⟨wk.heap.size, 0, none⟩) 1 [(1, 5)] 5 _ hll (by decide))
  have hv5 : (setB [(1, 5)] && innB [(1, 5)] 5) = false := by decide
  rw [hv5] at HHS
  clear hbl hll hv5
  go_wp2_with fail
  refine HHS.out.mono ?_
  rintro e wm ⟨rfl, hb⟩
  have HBm := Lib.hid (HBl.out.trans (hb.mono HBl.out.size))
  have HAm := Lib.hid ((HAl.out.next hb (Nat.le_refl _)).more hb.size)
  clear hb HHS
  have HCV := Lib.hid (coversS_any (some ⟨w.heap.size, 0, none⟩) none 1 0 [(1, 5)] [] wm HAm.out (fun h => absurd rfl h) (by decide) (by decide) (by decide) (by decide) (by decide) okA okN)
  have hcv1 : covB [(1, 5)] [] = true := by decide +kernel
  rw [hcv1] at HCV
  clear hcv1
  go_wp2_with fail
  refine HCV.out.mono ?_
  rintro e wn ⟨rfl, hb⟩
  have HBn := Lib.hid (HBm.out.trans (hb.mono HBm.out.size))
  have HAn := Lib.hid ((HAm.out.next hb (Nat.le_refl _)).more hb.size)
  clear hb HCV
  have HCW := Lib.hid (coversS_any none (some ⟨w.heap.size, 0, none⟩) 0 1 [] [(1, 5)] wn (fun h => absurd rfl h) HAn.out (by decide) (by decide) (by decide) (by decide) (by decide) okN okA)
  have hcv2 : covB [] [(1, 5)] = false := by decide +kernel
  rw [hcv2] at HCW
  clear hcv2
  go_wp2_with fail
  refine HCW.out.mono ?_
  rintro e wo ⟨rfl, hb⟩
  have HBo := Lib.hid (HBn.out.trans (hb.mono HBn.out.size))
  clear hb HCW
  go_wp2
  go_ret
  exact ⟨rfl, HBo.out⟩
end Go.Proofs.YtfonmgpkbgdniaaGreatDoor
