/-
  CONTRACTS: strings.Cut at one byte; readSpan (one span, as text).
-/
import Derived.BigQuiet
import Derived.IntWalk
import Derived.Test.YtfonmgpkbgdniaaGreatDoorJSTime
namespace Go.Proofs.YtfonmgpkbgdniaaGreatDoor
open Go.RowKit Go.Shelf

/-- What a cut at the byte c leaves: where it stands, what is ahead and behind; else all, and nothing. -/
def CutAt (s : ByteArray) (c : UInt8) (a b : ByteArray) (k : Bool) : Prop :=
  (k = true ∧ s.data.toList = a.data.toList ++ c :: b.data.toList ∧ (∀ x ∈ a.data.toList, x ≠ c)) ∨ (k = false ∧ a = s ∧ b = ⟨#[]⟩ ∧ ∀ x ∈ s.data.toList, x ≠ c)
theorem cut_split {s : ByteArray} {c : UInt8} {o : Nat} (h : Lib.indexByte s.data.toList c = o) : o < s.size ∧ s.data.toList = (s.extract 0 o).data.toList ++ c :: (s.extract (o + 1) s.size).data.toList ∧ ∀ x ∈ (s.extract 0 o).data.toList, x ≠ c := by
  obtain ⟨h1, h2⟩ := Lib.indexByte_some h
  have hlen : s.data.toList.length = s.size := Array.length_toList
  obtain ⟨ho, he⟩ := List.getElem?_eq_some_iff.1 h1
  have e1 : (s.extract 0 o).data.toList = s.data.toList.take o := by simp [ByteArray.data_extract]
  have e2 : (s.extract (o + 1) s.size).data.toList = s.data.toList.drop (o + 1) := by
    rw [ByteArray.data_extract, Array.toList_extract]
    simp only [List.extract_eq_take_drop]
    rw [List.take_of_length_le (by rw [List.length_drop]; omega)]
  refine ⟨by omega, ?_, ?_⟩
  · rw [e1, e2]
    conv => lhs; rw [← List.take_append_drop o s.data.toList, List.drop_eq_getElem_cons ho, he]
  · intro x hx
    rw [e1] at hx
    obtain ⟨k, hk, hkx⟩ := List.mem_iff_getElem.1 hx
    rintro rfl
    rw [List.length_take] at hk
    rw [List.getElem_take] at hkx
    exact h2 k (by omega) (by rw [List.getElem?_eq_getElem (by omega), hkx])
theorem cut_none {s : ByteArray} {c : UInt8} (h : Lib.indexByte s.data.toList c = -1) : ∀ x ∈ s.data.toList, x ≠ c := fun x hx => by
  obtain ⟨k, hk, hkx⟩ := List.mem_iff_getElem.1 hx
  rintro rfl
  exact Lib.indexByte_none h k (by rw [List.getElem?_eq_getElem hk, hkx])

set_option maxRecDepth 100000 in
set_option maxHeartbeats 1000000 in
theorem cutIn_any (s : ByteArray) (c : UInt8) (w : World) (hs : s.size ≤ maxLen) :
    Calls Tryz.prog 55 #[.string s, .string ⟨#[c]⟩] w fun e w' => (∃ a b k, e = .returned (.tuple #[.string a, .string b, .bool k]) ∧ CutAt s c a b k) ∧ Below w.heap.size w w' := by
  have HC := Lib.hid (fun w => Tryz.stringslite_Index_one s c w)
  rcases (by have := Lib.indexByte_ge s.data.toList c; omega : Lib.indexByte s.data.toList c = -1 ∨ 0 ≤ Lib.indexByte s.data.toList c) with h | h
  · have HE : Hid (CutAt s c s ⟨#[]⟩ false) := .inr ⟨rfl, rfl, rfl, cut_none h⟩
    have HH := Lib.hid h
    clear h
    go_enter Tryz.func55, Tryz.ntmps55
    go_wp2_with fail
    refine (HC.out _).mono ?_
    rintro e w1 ⟨rfl, rfl⟩
    rw [HH.out]
    go_wp2
    go_ret3
    exact ⟨⟨_, _, _, rfl, HE.out⟩, Below.refl _ _⟩
  · obtain ⟨o, ho⟩ : ∃ o : Nat, Lib.indexByte s.data.toList c = o := ⟨(Lib.indexByte s.data.toList c).toNat, by omega⟩
    obtain ⟨hlt, e1, e2⟩ := cut_split ho
    have HE : Hid (CutAt s c (s.extract 0 o) (s.extract (o + 1) s.size) true) := .inl ⟨rfl, e1, e2⟩
    have HH := Lib.hid ho
    clear h ho e1 e2
    have c1 : (0 : Int) ≤ (o : Int) := by omega
    have c2 : (o : Int) ≤ (s.size : Int) := by omega
    have c3 : (0 : Int) ≤ (o : Int) + 1 := by omega
    have c4 : (o : Int) + 1 ≤ (s.size : Int) := by omega
    have hmx : maxLen ≤ 9223372036854775807 := by decide
    have hw1 : IntKind.i64.wrap ((o : Int) + 1) = (o : Int) + 1 := IntWalk.i64_in _ (by omega)
    have hw2 : wrap64 ((o : Int) + 1) = (o : Int) + 1 := by unfold wrap64; omega
    go_enter Tryz.func55, Tryz.ntmps55
    go_wp2_with fail
    refine (HC.out _).mono ?_
    rintro e w1 ⟨rfl, rfl⟩
    rw [HH.out]
    go_wp2
    go_region
    all_goals go_wp2
    all_goals go_ret3
    all_goals exact ⟨⟨_, _, _, rfl, HE.out⟩, below_ind (Below.refl _ _) 1⟩
set_option maxRecDepth 100000 in
theorem cut_any (s : ByteArray) (c : UInt8) (w : World) (hs : s.size ≤ maxLen) :
    Calls Tryz.prog 43 #[.string s, .string ⟨#[c]⟩] w fun e w' => (∃ a b k, e = .returned (.tuple #[.string a, .string b, .bool k]) ∧ CutAt s c a b k) ∧ Below w.heap.size w w' := by
  go_enter Tryz.func43, Tryz.ntmps43
  go_wp2_with fail
  refine (cutIn_any s c _ hs).mono ?_
  rintro e w1 ⟨⟨a, b, k, rfl, hc⟩, hb⟩
  have HC := Lib.hid hc
  clear hc
  go_wp2
  go_ret3
  exact ⟨⟨_, _, _, rfl, HC.out⟩, hb⟩

/-- What reading a span answers: two numbers that are some, and if it is a span's text, that span. -/
def SpanRd (l : List UInt8) (e : Ending) : Prop := ∃ (x y : Int) (ok : Bool), e = .returned (.tuple #[.agg #[.int .i64 x, .int .i64 y], .bool ok]) ∧ SpOk (x, y) ∧ ∀ s, SpOk s → l = oneT s → (x, y) = s ∧ ok = true
/-- the parts that readSpan takes out of a text, and what they are where the text is a span's -/
theorem parts_of {s : Sp} {l : List UInt8} (h : l = oneT s) : Lib.hasPrefix l [91] = true ∧ Lib.hasSuffix (Lib.trimPrefix l [91]) [41] = true ∧ Lib.trimSuffix (Lib.trimPrefix l [91]) [41] = endT s.1 ++ 44 :: endT s.2 := by
  subst h
  have h1 : Lib.hasPrefix (oneT s) [91] = true := by simp [Lib.hasPrefix, oneT]
  have h2 : Lib.trimPrefix (oneT s) [91] = (endT s.1 ++ 44 :: endT s.2) ++ [41] := by
    unfold Lib.trimPrefix
    rw [if_pos h1]
    simp [oneT]
  have h3 : Lib.hasSuffix ((endT s.1 ++ 44 :: endT s.2) ++ [41]) [41] = true := by
    unfold Lib.hasSuffix
    rw [List.isSuffixOf_iff_suffix]
    exact ⟨_, rfl⟩
  refine ⟨h1, by rw [h2]; exact h3, ?_⟩
  rw [h2]
  unfold Lib.trimSuffix
  rw [if_pos h3, List.length_append, Nat.add_sub_cancel]
  exact List.take_left
theorem spanRd_mk {l : List UInt8} {i2 a b : ByteArray} {k o1 o2 ok1 ok2 : Bool} {x y : Int} (hi : i2 = ⟨(Lib.trimSuffix (Lib.trimPrefix l [91]) [41]).toArray⟩) (hc : CutAt i2 44 a b k) (h1 : o1 = Lib.hasPrefix l [91]) (h2 : o2 = Lib.hasSuffix (Lib.trimPrefix l [91]) [41])
    (hx : EndRd a.data.toList (.returned (.tuple #[.int .i64 x, .bool ok1]))) (hy : EndRd b.data.toList (.returned (.tuple #[.int .i64 y, .bool ok2]))) : SpanRd l (.returned (.tuple #[.agg #[.int .i64 x, .int .i64 y], .bool (o1 && o2 && ok1 && ok2)])) := by
  obtain ⟨x', k1, e1, b1, f1⟩ := hx
  obtain ⟨y', k2, e2, b2, f2⟩ := hy
  cases e1
  cases e2
  refine ⟨_, _, _, rfl, ⟨b1, b2⟩, fun s hs hl => ?_⟩
  obtain ⟨p1, p2, p3⟩ := parts_of hl
  rw [p3] at hi
  have hd : i2.data.toList = endT s.1 ++ 44 :: endT s.2 := by rw [hi]
  rcases hc with ⟨_, c2, c3⟩ | ⟨_, _, _, c4⟩
  · rw [hd] at c2
    obtain ⟨g1, g2⟩ := stop_inj (fun z hz => (numC_not (endT_mem _ z hz)).1) c3 c2
    obtain ⟨u1, u2⟩ := f1 s.1 hs.1 g1.symm
    obtain ⟨v1, v2⟩ := f2 s.2 hs.2 g2.symm
    refine ⟨Prod.ext u1 v1, ?_⟩
    rw [h1, h2, p1, p2, u2, v2]; rfl
  · exact absurd rfl (c4 44 (by rw [hd]; simp))

/-- the result's cells, as they lie while the reader reads -/
structure Res2 (w W : World) : Prop where
  c0 : W.cell? ⟨w.heap.size, 0, none⟩ = some (.int .i64 0)
  c1 : W.cell? ⟨w.heap.size, 1, none⟩ = some (.int .i64 0)
  f0 : W.frozen? ⟨w.heap.size, 0, none⟩ = false
  f1 : W.frozen? ⟨w.heap.size, 1, none⟩ = false
  low : Below w.heap.size w W
  size : w.heap.size < W.heap.size
theorem res2_new (w : World) (t : TypeId) : Res2 w (w.alloc (.cells #[.int .i64 0, .int .i64 0] t)) :=
  ⟨by go_simp, by go_simp, by go_simp, by go_simp, (Below.refl _ _).alloc (Nat.le_refl _) _, by simp⟩
theorem Res2.next {w W W' : World} (h : Res2 w W) {B : Nat} (hb : Below B W W') (hB : w.heap.size < B) : Res2 w W' :=
  ⟨(hb.cell (p := ⟨w.heap.size, 0, none⟩) hB).trans h.c0, (hb.cell (p := ⟨w.heap.size, 1, none⟩) hB).trans h.c1,
    (hb.frozen (p := ⟨w.heap.size, 0, none⟩) hB).trans h.f0, (hb.frozen (p := ⟨w.heap.size, 1, none⟩) hB).trans h.f1, h.low.trans (hb.mono (by omega)), by have := h.size; have := hb.size; omega⟩
theorem trim_len (l : List UInt8) : (Lib.trimSuffix (Lib.trimPrefix l [91]) [41]).length ≤ l.length := by
  unfold Lib.trimSuffix Lib.trimPrefix
  split <;> split <;> simp <;> omega
theorem cutAt_len {s a b : ByteArray} {c : UInt8} {k : Bool} (h : CutAt s c a b k) : a.size ≤ s.size ∧ b.size ≤ s.size := by
  have e1 : s.data.toList.length = s.size := Array.length_toList
  have e2 : a.data.toList.length = a.size := Array.length_toList
  have e3 : b.data.toList.length = b.size := Array.length_toList
  rcases h with ⟨_, h, _⟩ | ⟨_, rfl, rfl, _⟩
  · have := congrArg List.length h
    rw [List.length_append, List.length_cons] at this
    omega
  · exact ⟨Nat.le_refl _, Nat.zero_le _⟩

set_option maxRecDepth 100000 in
set_option maxHeartbeats 1000000 in
theorem readSpan_any (s : ByteArray) (w : World) (hs : s.size ≤ 5000) (herr : Errs w) :
    Calls Tryz.prog 28 #[.string s] w fun e w' => SpanRd s.data.toList e ∧ Below w.heap.size w w' := by
  have hlen : s.data.toList.length = s.size := Array.length_toList
  have r0 := res2_new w 23
  have HERR := Lib.hid herr
  have HP := Lib.hid (fun w => Tryz.strings_CutPrefix s ⟨#[91]⟩ w)
  obtain ⟨i1, hi1⟩ : ∃ i1 : ByteArray, (⟨(Lib.trimPrefix s.data.toList [91]).toArray⟩ : ByteArray) = i1 := ⟨_, rfl⟩
  have hd1 : i1.data.toList = Lib.trimPrefix s.data.toList [91] := by rw [← hi1]
  have hs1 : i1.size ≤ 5000 := by
    have : i1.size = i1.data.toList.length := Array.length_toList.symm
    rw [this, hd1]
    unfold Lib.trimPrefix
    split
    · rw [List.length_drop]; omega
    · omega
  have HQ := Lib.hid (fun w => Tryz.strings_CutSuffix i1 ⟨#[41]⟩ w (by omega))
  obtain ⟨i2, hi2⟩ : ∃ i2 : ByteArray, (⟨(Lib.trimSuffix i1.data.toList [41]).toArray⟩ : ByteArray) = i2 := ⟨_, rfl⟩
  have hs2 : i2.size ≤ 5000 := by
    rw [← hi2, hd1]
    show (List.toArray _).size ≤ _
    rw [List.size_toArray]
    have := trim_len s.data.toList
    omega
  have hI2 : Hid (i2 = ⟨(Lib.trimSuffix (Lib.trimPrefix s.data.toList [91]) [41]).toArray⟩) := by show _ = _; rw [← hi2, hd1]
  obtain ⟨o1, ho1⟩ : ∃ o : Bool, Lib.hasPrefix s.data.toList [91] = o := ⟨_, rfl⟩
  obtain ⟨o2, ho2⟩ : ∃ o : Bool, Lib.hasSuffix i1.data.toList [41] = o := ⟨_, rfl⟩
  have hO2 : Hid (o2 = Lib.hasSuffix (Lib.trimPrefix s.data.toList [91]) [41]) := by show _ = _; rw [← ho2, hd1]
  have HI1 := Lib.hid hi1
  have HI2 := Lib.hid hi2
  have HO1 := Lib.hid ho1
  have HO2 := Lib.hid ho2
  have hmx : 5000 ≤ maxLen := by decide
  clear herr hi1 hd1 hi2 ho1 ho2 hlen
  go_enter Tryz.func28, Tryz.ntmps28
  go_wp2_with fail
  refine (HP.out _).mono ?_
  rintro e w1 ⟨rfl, rfl⟩
  rw [show (⟨(Lib.trimPrefix s.data.toList (⟨#[91]⟩ : ByteArray).data.toList).toArray⟩ : ByteArray) = i1 from HI1.out, show Lib.hasPrefix s.data.toList (⟨#[91]⟩ : ByteArray).data.toList = o1 from HO1.out]
  go_wp2_with fail
  refine (HQ.out _).mono ?_
  rintro e w1 ⟨rfl, rfl⟩
  rw [show (⟨(Lib.trimSuffix i1.data.toList (⟨#[41]⟩ : ByteArray).data.toList).toArray⟩ : ByteArray) = i2 from HI2.out, show Lib.hasSuffix i1.data.toList (⟨#[41]⟩ : ByteArray).data.toList = o2 from HO2.out]
  go_wp2_with fail
  refine (cut_any i2 44 _ (by omega)).mono ?_
  rintro e w1 ⟨⟨a, b, k, rfl, hc⟩, hb1⟩
  have r1 : Res2 w w1 := r0.next hb1 (by simp)
  have hcl := cutAt_len hc
  have HC := Lib.hid hc
  have HE1 := Lib.hid (errs_below HERR.out r1.low (Nat.le_refl _))
  clear hc r0 hb1
  go_wp2_with fail
  refine (readTime_any a _ (by omega) HE1.out).mono ?_
  rintro e w2 ⟨⟨x, k1, rfl, hx1, hx2⟩, hb2⟩
  have HX : Hid (EndRd a.data.toList (.returned (.tuple #[.int .i64 x, .bool k1]))) := ⟨_, _, rfl, hx1, hx2⟩
  have r2 : Res2 w w2 := r1.next hb2 r1.size
  have HE2 := Lib.hid (errs_below HERR.out r2.low (Nat.le_refl _))
  clear hx1 hx2 hb2 r1
  go_wp2_with fail
  refine (readTime_any b _ (by omega) HE2.out).mono ?_
  rintro e w3 ⟨⟨y, k2, rfl, hx1, hx2⟩, hb2⟩
  have HY : Hid (EndRd b.data.toList (.returned (.tuple #[.int .i64 y, .bool k2]))) := ⟨_, _, rfl, hx1, hx2⟩
  have r3 : Res2 w w3 := r2.next hb2 r2.size
  clear hx1 hx2 hb2 r2 hcl
  have HR := Lib.hid (spanRd_mk hI2.out HC.out HO1.out.symm hO2.out HX.out HY.out)
  have e0 := r3.c0
  have e1 := r3.c1
  have f0 := r3.f0
  have f1 := r3.f1
  have HL := Lib.hid r3.low
  clear r3
  cases o1 <;> cases o2 <;> cases k1 <;> cases k2
  all_goals
    go_wp2
    refine bodyPost_ret (v := .tuple #[.agg #[.int .i64 x, .int .i64 y], .bool _]) ?_ rfl ⟨HR.out, ?_⟩
    · rw [results_cell_tmp rfl]; go_simp
    · exact ((HL.out.setCell (p := ⟨w.heap.size, 0, none⟩) (Nat.le_refl _) _).setCell (p := ⟨w.heap.size, 1, none⟩) (Nat.le_refl _) _)
end Go.Proofs.YtfonmgpkbgdniaaGreatDoor
