/-
  CONTRACTS: appendTime, readTime (one end of a span, as text).
-/
import Derived.Lib.AppendStr
import Derived.Lib.Hide
import Derived.Lib.BufferRead
import Derived.RegionTactic
import Derived.ChangeAlike
import Derived.Test.YtfonmgpkbgdniaaGreatDoorJNum
import Derived.Test.YtfonmgpkbgdniaaGreatDoorJSTextP
import Derived.Test.YtfonmgpkbgdniaaGreatDoorJSSet
import Derived.Test.YtfonmgpkbgdniaaGreatDoorJShelf
namespace Go.Proofs.YtfonmgpkbgdniaaGreatDoor
open Go.RowKit Go.Shelf

theorem u8_same : cellsL = Lib.byteCells := rfl
/-- strconv's table of powers lies, whatever is done above B -/
def TabB (B : Nat) (w : World) : Prop := Lib.TabBelow Tryz.prog B w "internal/strconv.uint64pow10" .u64 Lib.pow10Tab
/-- What a call that appends bytes leaves: the row, all below B, and every block that is none of bytes. -/
def AppO (W : World) (B : Nat) (l : List UInt8) (e : Ending) (w' : World) : Prop := ∃ v', e = .returned v' ∧ OwnB w' B v' l ∧ Below B W w' ∧ Lib.OthersKept 5 none W w'
theorem appE {W : World} {B : Nat} {l : List UInt8} {v' : Value} {w' : World} (h : OwnB w' B v' l) (hb : Below B W w') (ho : Lib.OthersKept 5 none W w') : AppO W B l (.returned v') w' := ⟨v', rfl, h, hb, ho⟩
theorem others_own {W w1 : World} {B : Nat} {v : Value} {l : List UInt8} (h : OwnB W B v l) (hg : W.grownBy w1 v.ownBlock) : Lib.OthersKept 5 none W w1 := by
  refine (Lib.OthersKept.refl _ none W).grown hg ?_
  rcases h.2 with ⟨rfl, _⟩ | ⟨g, cap, cur, rfl, _, hgb, _⟩
  · intro g hg'; simp [Value.ownBlock] at hg'
  · intro g' hg'
    have e2 : g = g' := by simpa [Value.ownBlock] using hg'
    subst e2
    exact ⟨_, _, hgb⟩
theorem strCells_lit (a : UInt8) : Lib.strCells ⟨#[a]⟩ = cellsL [a] := rfl
theorem own_more {W : World} {B : Nat} {v : Value} {l : List UInt8} {a : UInt8} (h : W.ownsRow B 5 1 v (l.length + (⟨#[a]⟩ : ByteArray).size) (cellsL l ++ Lib.strCells ⟨#[a]⟩)) : OwnB W B v (l ++ [a]) := by
  rw [strCells_lit, ← cellsL_app] at h
  unfold OwnB
  rw [List.length_append]
  exact h

set_option maxHeartbeats 1000000 in
theorem appendTime_any (B : Nat) (b : Value) (l : List UInt8) (x : Int) (W : World) (hown : OwnB W B b l) (hl : l.length ≤ 400000) (hB : B ≤ W.heap.size) (hx : minT ≤ x ∧ x ≤ maxT) (htab : TabB B W) :
    Calls Tryz.prog 18 #[b, .int .i64 x] W (AppO W B (l ++ endT x)) := by
  obtain ⟨i0, hi, hz0, hz1, hz2⟩ := info_parts info8
  have hmx : 500000 ≤ maxLen := by decide
  have HO := Lib.hid hown
  clear hown
  by_cases h1 : x = minT
  · have he : endT x = [45] := by unfold endT; rw [if_pos h1]
    rw [he]
    have hx1 : (x == -9223372036854775808) = true := by rw [h1]; decide
    clear he
    have HX := Lib.hid hx
    clear h1 hx
    go_enter Tryz.func18, Tryz.ntmps18
    go_wp2_with (at_builtin; refine Lib.wpList_append_own_string _ rfl _ _ 39 9 rfl B 5 i0 Tryz.underlying39 Tryz.underlying9 hi hz0 hz1 hz2 _ _ _ rfl HO.out ⟨#[45]⟩ rfl (by show _ + 1 ≤ _; omega) (by show _ + 1 ≤ _; omega) hB ?_; intro v' w3 hown' hgrow _)
    go_ret
    exact appE (own_more hown') (below_own HO.out hgrow hB) (others_own HO.out hgrow)
  · have hx1 : (x == -9223372036854775808) = false := by rw [beq_eq_false_iff_ne]; exact h1
    by_cases h2 : x = maxT
    · have he : endT x = [43] := by unfold endT; rw [if_neg h1, if_pos h2]
      rw [he]
      have hx2 : (x == 9223372036854775807) = true := by rw [h2]; decide
      clear he h1 h2 hx
      go_enter Tryz.func18, Tryz.ntmps18
      go_wp2_with (at_builtin; refine Lib.wpList_append_own_string _ rfl _ _ 39 9 rfl B 5 i0 Tryz.underlying39 Tryz.underlying9 hi hz0 hz1 hz2 _ _ _ rfl HO.out ⟨#[43]⟩ rfl (by show _ + 1 ≤ _; omega) (by show _ + 1 ≤ _; omega) hB ?_; intro v' w3 hown' hgrow _)
      go_ret
      exact appE (own_more hown') (below_own HO.out hgrow hB) (others_own HO.out hgrow)
    · have he : endT x = Lib.itoa x := by unfold endT; rw [if_neg h1, if_neg h2]
      rw [he]
      have hx2 : (x == 9223372036854775807) = false := by rw [beq_eq_false_iff_ne]; exact h2
      have hC := Tryz.strconv_AppendInt_10 B l.length x hx.1 hx.2 b (cellsL l) W HO.out hB (by omega) htab
      have HC := Lib.hid hC
      clear he h1 h2 hx hC
      go_enter Tryz.func18, Tryz.ntmps18
      go_wp2_with fail
      refine HC.out.mono ?_
      rintro e w2 ⟨v2, rfl, hown2, hb2, ho2⟩
      go_wp2
      go_ret
      refine appE ?_ hb2 ho2
      rw [← u8_same, ← cellsL_app] at hown2
      simpa [OwnB] using hown2

/-- strconv's two errors lie as errors -/
def Errs (W : World) : Prop := (∃ tp p, W.var? Tryz.prog "strconv.ErrSyntax" = some #[.iface tp p]) ∧ (∃ tp p, W.var? Tryz.prog "strconv.ErrRange" = some #[.iface tp p])
theorem gSyn : Tryz.prog.globalNamed "strconv.ErrSyntax" = some 4 := by kernel_rfl
theorem gRan : Tryz.prog.globalNamed "strconv.ErrRange" = some 5 := by kernel_rfl
theorem errs_below {w W : World} (h : Errs w) {B : Nat} (hb : Below B w W) (hB : w.heap.size ≤ B) : Errs W := by
  obtain ⟨⟨a, b, h1⟩, ⟨c, d, h2⟩⟩ := h
  exact ⟨⟨a, b, Joins.var_stays gSyn h1 hb hB⟩, ⟨c, d, Joins.var_stays gRan h2 hb hB⟩⟩

/-- What reading an end answers: a number that is one, and if it is an end's text, that end. -/
def EndRd (l : List UInt8) (e : Ending) : Prop := ∃ (n : Int) (ok : Bool), e = .returned (.tuple #[.int .i64 n, .bool ok]) ∧ (minT ≤ n ∧ n ≤ maxT) ∧ ∀ x, minT ≤ x ∧ x ≤ maxT → l = endT x → n = x ∧ ok = true
theorem endRd_low : EndRd [45] (.returned (.tuple #[.int .i64 (-9223372036854775808), .bool true])) :=
  ⟨_, _, rfl, by decide, fun x hx h => ⟨(endT_inj (x := minT) (by decide) hx (by rw [← h]; rfl)), rfl⟩⟩
theorem endRd_high : EndRd [43] (.returned (.tuple #[.int .i64 9223372036854775807, .bool true])) :=
  ⟨_, _, rfl, by decide, fun x hx h => ⟨(endT_inj (x := maxT) (by decide) hx (by rw [← h]; decide)), rfl⟩⟩
theorem endRd_ok {l : List UInt8} {v : Int} (h1 : l ≠ [45]) (h2 : l ≠ [43]) (hv : minT ≤ v ∧ v ≤ maxT) (h : Lib.parseIntB 64 l = .ok v) : EndRd l (.returned (.tuple #[.int .i64 v, .bool true])) :=
  ⟨_, _, rfl, hv, fun x hx e => by
    unfold endT at e
    split at e
    · exact absurd e h1
    · split at e
      · exact absurd e h2
      · rw [e, parse_itoa x hx.1 hx.2] at h
        cases h; exact ⟨rfl, rfl⟩⟩
theorem endRd_no {l : List UInt8} {v : Int} (h1 : l ≠ [45]) (h2 : l ≠ [43]) (hv : minT ≤ v ∧ v ≤ maxT) (h : ∀ v, Lib.parseIntB 64 l ≠ .ok v) : EndRd l (.returned (.tuple #[.int .i64 v, .bool false])) :=
  ⟨_, _, rfl, hv, fun x hx e => by
    unfold endT at e
    split at e
    · exact absurd e h1
    · split at e
      · exact absurd e h2
      · rw [e] at h
        exact absurd (parse_itoa x hx.1 hx.2) (h x)⟩

theorem toL_ne {s : ByteArray} {a : UInt8} (h : s.data.toList ≠ [a]) : (s.toList == [a]) = false := by
  rw [beq_eq_false_iff_ne, ByteArray.toList_eq]; exact h

set_option maxRecDepth 100000 in
set_option maxHeartbeats 1000000 in
theorem readTime_ok (s : ByteArray) (w : World) (v : Int) (h1 : s.data.toList ≠ [45]) (h2 : s.data.toList ≠ [43])
    (hE : EndRd s.data.toList (.returned (.tuple #[.int .i64 v, .bool true])))
    (hC : Calls Tryz.prog 56 #[.string s, .int .i64 10, .int .i64 64] w fun e w'' => e = .returned (.tuple #[.int .i64 v, .nilIface]) ∧ Below w.heap.size w w'') :
    Calls Tryz.prog 44 #[.string s] w fun e w' => EndRd s.data.toList e ∧ Below w.heap.size w w' := by
  have HE := Lib.hid hE
  have HC := Lib.hid hC
  have q1 := toL_ne h1
  have q2 := toL_ne h2
  clear h1 h2 hE hC
  go_enter Tryz.func44, Tryz.ntmps44
  go_wp2_with fail
  refine HC.out.mono ?_
  rintro e w1 ⟨rfl, hb⟩
  go_wp2
  go_region
  all_goals go_wp2
  all_goals go_ret2
  all_goals exact ⟨HE.out, below_ind hb 1⟩
set_option maxRecDepth 100000 in
set_option maxHeartbeats 1000000 in
theorem readTime_err (s : ByteArray) (w : World) (v : Int) (h1 : s.data.toList ≠ [45]) (h2 : s.data.toList ≠ [43])
    (hE : EndRd s.data.toList (.returned (.tuple #[.int .i64 v, .bool false])))
    (hC : Calls Tryz.prog 56 #[.string s, .int .i64 10, .int .i64 64] w fun e w'' => ∃ N, e = .returned (.tuple #[.int .i64 v, .iface 122 (.pointer (some ⟨N, 0, none⟩))]) ∧ Below w.heap.size w w'') :
    Calls Tryz.prog 44 #[.string s] w fun e w' => EndRd s.data.toList e ∧ Below w.heap.size w w' := by
  have HE := Lib.hid hE
  have HC := Lib.hid hC
  have q1 := toL_ne h1
  have q2 := toL_ne h2
  clear h1 h2 hE hC
  go_enter Tryz.func44, Tryz.ntmps44
  go_wp2_with fail
  refine HC.out.mono ?_
  rintro e w1 ⟨N, rfl, hb⟩
  go_wp2
  go_region
  all_goals go_wp2
  all_goals go_ret2
  all_goals exact ⟨HE.out, below_ind hb 1⟩
theorem in64 {l : List UInt8} {v : Int} (h : Lib.parseIntB 64 l = .ok v) : minT ≤ v ∧ v ≤ maxT := by
  have := Lib.parseIntB_bounds h
  unfold minT maxT; omega
theorem sat64 (l : List UInt8) : minT ≤ Lib.intSat 64 l ∧ Lib.intSat 64 l ≤ maxT := by
  unfold Lib.intSat
  split <;> decide
theorem readTime_any (s : ByteArray) (w : World) (hs : s.size ≤ 5000) (herr : Errs w) :
    Calls Tryz.prog 44 #[.string s] w fun e w' => EndRd s.data.toList e ∧ Below w.heap.size w w' := by
  by_cases h1 : s.data.toList = [45]
  · obtain rfl : s = ⟨#[45]⟩ := ByteArray.ext (Array.toList_inj.1 h1)
    clear h1 hs
    go_enter Tryz.func44, Tryz.ntmps44
    go_wp2
    go_ret2
    exact ⟨endRd_low, Below.refl _ _⟩
  · by_cases h2 : s.data.toList = [43]
    · obtain rfl : s = ⟨#[43]⟩ := ByteArray.ext (Array.toList_inj.1 h2)
      clear h1 h2 hs
      go_enter Tryz.func44, Tryz.ntmps44
      go_wp2
      go_ret2
      exact ⟨endRd_high, Below.refl _ _⟩
    · cases hp : Lib.parseIntB 64 s.data.toList
      · refine readTime_ok s w _ h1 h2 (endRd_ok h1 h2 (in64 hp) hp) ((Tryz.strconv_ParseInt_10_at64_ok s (by omega) _ hp w).mono fun e w' ⟨he, hw⟩ => ⟨he, ?_⟩)
        rcases hw with hw | ⟨t, hw⟩
        · rw [hw]; exact Below.refl _ _
        · rw [hw]; exact Lib.bytesWorld_below _ _ _
      · obtain ⟨⟨tp, p, h⟩, _⟩ := herr
        exact readTime_err s w 0 h1 h2 (endRd_no h1 h2 (by decide) (fun v hv => by rw [hv] at hp; cases hp)) ((Tryz.strconv_ParseInt_10_at64_syntax_var s (by omega) hp tp p w h).mono fun e w'' ⟨N, h1, _, _, h2⟩ => ⟨N, h1, h2⟩)
      · obtain ⟨_, ⟨tp, p, h⟩⟩ := herr
        exact readTime_err s w _ h1 h2 (endRd_no h1 h2 (sat64 _) (fun v hv => by rw [hv] at hp; cases hp)) ((Tryz.strconv_ParseInt_10_at64_range_var s (by omega) hp tp p w h).mono fun e w'' ⟨N, h1, _, _, h2⟩ => ⟨N, h1, h2⟩)
end Go.Proofs.YtfonmgpkbgdniaaGreatDoor
