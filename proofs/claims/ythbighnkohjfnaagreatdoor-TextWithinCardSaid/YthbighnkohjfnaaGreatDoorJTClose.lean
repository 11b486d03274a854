import Derived.Test.YthbighnkohjfnaaGreatDoorJSpells
import Derived.Test.YthbighnkohjfnaaGreatDoorJTRdr
import Derived.Test.YthbighnkohjfnaaGreatDoorJTAddD
/-
  CONTRACT of Parse.
-/
namespace Go.Proofs.YthbighnkohjfnaaGreatDoor
open Go.RowKit Go.Shelf

/-- What Parse answers. -/
def ParseEnds (l : List UInt8) (e : Ending) : Prop :=
  (∃ (k n : Int) (t : ByteArray), e = .returned (.tuple #[.agg #[.int .i64 k, .int .i64 n, .string t], .int .i64 0]) ∧ mayB k n t = true ∧ inI64 n ∧ t.size ≤ maxLen ∧ txtL k n t = l ∧ ∀ (k' n' : Int) (t' : ByteArray), mayB k' n' t' = true → inI64 n' → txtL k' n' t' = l → k = k' ∧ n = n' ∧ t = t') ∨
  (e = .returned (.tuple #[.agg #[.int .i64 0, .int .i64 0, .string ⟨#[]⟩], .int .i64 11]) ∧ ∀ (k n : Int) (t : ByteArray), mayB k n t = true → inI64 n → txtL k n t ≠ l)

theorem txt_short (k n : Int) (s : ByteArray) (hm : mayB k n s = true) (h0 : -9223372036854775808 ≤ n) (h1 : n ≤ 9223372036854775807) : (txtL k n s).length ≤ 3002 := by
  have hl : s.data.toList.length = s.size := Array.length_toList
  have hi := itoa_len n h0 h1
  have hh := flatL_len hexL hexL_len s.data.toList
  have he := flatL_len escL escL_len s.data.toList
  have hb : (boolL (n == 1)).length ≤ 5 := by cases (n == 1) <;> decide
  unfold mayB at hm
  unfold txtL
  by_cases k1 : k = 1
  · rw [if_pos k1]; omega
  by_cases k2 : k = 2
  · rw [if_neg k1, if_pos k2]; omega
  by_cases k3 : k = 3
  · rw [if_neg (by omega), if_neg k2, if_pos (by omega)] at hm
    simp at hm
    rw [if_neg k1, if_neg k2, if_pos k3]
    simp only [List.length_append, List.length_cons, List.length_nil]; omega
  by_cases k4 : k = 4
  · rw [if_neg (by omega), if_neg k2, if_pos (by omega)] at hm
    simp at hm
    rw [if_neg k1, if_neg k2, if_neg k3, if_pos k4]
    simp only [List.length_append, List.length_cons, List.length_nil]; omega
  by_cases k5 : k = 5
  · rw [if_neg k1, if_neg k2, if_neg k3, if_neg k4, if_pos k5, List.length_cons]; omega
  by_cases k6 : k = 6
  · rw [if_neg k1, if_neg k2, if_neg k3, if_neg k4, if_neg k5, if_pos k6, List.length_cons]; omega
  by_cases k7 : k = 7
  · rw [if_neg (by omega), if_neg k2, if_neg (by omega), if_neg k5, if_pos k7] at hm
    simp at hm
    have := word_size hm.2
    rw [if_neg k1, if_neg k2, if_neg k3, if_neg k4, if_neg k5, if_neg k6, if_pos k7, List.length_cons]; omega
  · rw [if_neg k1, if_neg k2, if_neg k3, if_neg k4, if_neg k5, if_neg k6, if_neg k7]; simp

theorem parse_no {l : List UInt8} (h : ∀ (k n : Int) (t : ByteArray), mayB k n t = true → inI64 n → txtL k n t ≠ l) : ParseEnds l (.returned (.tuple #[.agg #[.int .i64 0, .int .i64 0, .string ⟨#[]⟩], .int .i64 11])) := .inr ⟨rfl, h⟩

/-- v's own block lies. -/
structure Holds3 (b : Nat) (k n : Int) (t : ByteArray) (W : World) : Prop where
  c0 : W.cell? ⟨b, 0, none⟩ = some (.int .i64 k)
  c1 : W.cell? ⟨b, 1, none⟩ = some (.int .i64 n)
  c2 : W.cell? ⟨b, 2, none⟩ = some (.string t)
theorem Holds3.next {b : Nat} {k n : Int} {t : ByteArray} {W W' : World} (h : Holds3 b k n t W) {B : Nat} (hb : Below B W W') (hB : b < B) : Holds3 b k n t W' :=
  ⟨(hb.cell (p := ⟨b, 0, none⟩) hB).trans h.c0, (hb.cell (p := ⟨b, 1, none⟩) hB).trans h.c1, (hb.cell (p := ⟨b, 2, none⟩) hB).trans h.c2⟩
theorem holds3_new (W : World) (k n : Int) (t : ByteArray) (T : TypeId) : Holds3 W.heap.size k n t (W.alloc (.cells #[.int .i64 k, .int .i64 n, .string t] T)) := ⟨by go_simp, by go_simp, by go_simp⟩

set_option maxRecDepth 100000 in
set_option maxHeartbeats 4000000 in
theorem parse_any (s : ByteArray) (w : World) (hs : s.size ≤ maxLen) (herr : Errs w) (htab : Tab w) :
    Calls Tryz.prog 71 #[.string s] w fun e w' => ParseEnds s.data.toList e ∧ Below w.heap.size w w' := by
  have HE := Lib.hid herr
  have HT := Lib.hid htab
  have HM := Lib.hid hs
  have r0 := res_new w 35
  clear herr htab hs
  have hsz : s.data.toList.length = s.size := Array.length_toList
  have HSZ := Lib.hid hsz
  clear hsz
  by_cases hx : s.size ≤ 3002
  · have hx1 : ¬ (3002 < (s.size : Int)) := by omega
    have R0 := Lib.hid r0
    clear r0
    go_enter Tryz.func71, Tryz.ntmps71
    go_wp2_with fail
    refine (read_any s _ (by omega) (errs_below HE.out R0.out.low)).mono ?_
    rintro e w2 ⟨⟨k, n, t, ok, rfl, hq1, hq2⟩, hb2⟩
    have HQ1 := Lib.hid hq1
    have HQ2 := Lib.hid hq2
    have hR2 : Res w w2 := R0.out.next hb2 (by simp)
    clear hq1 hq2 hb2
    cases ok
    · have HN : Hid (∀ (k n : Int) (t : ByteArray), mayB k n t = true → inI64 n → txtL k n t ≠ s.data.toList) := fun k n t h1 h2 h3 => by
        have := (HQ2.out k n t h1 h2 h3).2.2.2
        cases this
      have R2 := Lib.hid (hR2.next (((Below.refl _ w2).alloc (Nat.le_refl _) (.cells #[.int .i64 k, .int .i64 n, .string t] 35))) hR2.size)
      have e0 := R2.out.c0
      have e1 := R2.out.c1
      have e2 := R2.out.c2
      have f0 := R2.out.f0
      have f1 := R2.out.f1
      have f2 := R2.out.f2
      clear hR2
      go_wp2
      refine bodyPost_ret (v := .tuple #[.agg #[.int .i64 0, .int .i64 0, .string ⟨#[]⟩], .int .i64 11]) ?_ rfl ⟨parse_no HN.out, res_out R2.out⟩
      rw [results_cell_tmp rfl]; go_simp
    · obtain ⟨hn, ht⟩ := HQ1.out rfl
      have HN := Lib.hid hn
      have HH := Lib.hid (holds3_new w2 k n t 35)
      have R2 := Lib.hid (hR2.next (((Below.refl _ w2).alloc (Nat.le_refl _) (.cells #[.int .i64 k, .int .i64 n, .string t] 35))) hR2.size)
      clear hR2 hn
      go_wp2_with fail
      refine (mayBe_any k n t _ ht).mono ?_
      rintro e w3 ⟨rfl, hb3⟩
      have HH3 := Lib.hid (HH.out.next hb3 (by simp))
      have R3 := Lib.hid (R2.out.next hb3 R2.out.size)
      have hz3 : w2.heap.size < w3.heap.size := by have := hb3.size; simp at this; omega
      have HZ3 := Lib.hid hz3
      clear hz3
      obtain ⟨b, hb⟩ : ∃ b, mayB k n t = b := ⟨_, rfl⟩
      rw [hb]
      have HB := Lib.hid hb
      clear hb hb3 HH R2
      have g0 := HH3.out.c0
      have g1 := HH3.out.c1
      have g2 := HH3.out.c2
      cases b
      · have HO : Hid (∀ (k n : Int) (t : ByteArray), mayB k n t = true → inI64 n → txtL k n t ≠ s.data.toList) := fun k' n' t' h1 h2 h3 => by
          obtain ⟨rfl, rfl, rfl, _⟩ := HQ2.out k' n' t' h1 h2 h3
          have := HB.out
          rw [h1] at this
          cases this
        have e0 := R3.out.c0
        have e1 := R3.out.c1
        have e2 := R3.out.c2
        have f0 := R3.out.f0
        have f1 := R3.out.f1
        have f2 := R3.out.f2
        go_wp2
        refine bodyPost_ret (v := .tuple #[.agg #[.int .i64 0, .int .i64 0, .string ⟨#[]⟩], .int .i64 11]) ?_ rfl ⟨parse_no HO.out, res_out R3.out⟩
        rw [results_cell_tmp rfl]; go_simp
      · go_wp2_with fail
        refine ((callsIn_wide (n := 9)).1 (spells_any 9 (Nat.le_of_ble_eq_true rfl) k n t s w3 (by omega) HN.out.1 HN.out.2 HB.out (tab_below HT.out R3.out.low))).mono ?_
        rintro e w4 ⟨rfl, hb4⟩
        have HH4 := Lib.hid (HH3.out.next hb4 HZ3.out)
        have R4 := Lib.hid (R3.out.next hb4 R3.out.size)
        clear hb4 g0 g1 g2
        have g0 := HH4.out.c0
        have g1 := HH4.out.c1
        have g2 := HH4.out.c2
        have e0 := R4.out.c0
        have e1 := R4.out.c1
        have e2 := R4.out.c2
        have f0 := R4.out.f0
        have f1 := R4.out.f1
        have f2 := R4.out.f2
        by_cases hq : txtL k n t = s.data.toList
        · have HO : Hid (ParseEnds s.data.toList (.returned (.tuple #[.agg #[.int .i64 k, .int .i64 n, .string t], .int .i64 0]))) := .inl ⟨k, n, t, rfl, HB.out, HN.out, ht, hq, fun k' n' t' a b c => by obtain ⟨h1, h2, h3, _⟩ := HQ2.out k' n' t' a b c; exact ⟨h1, h2, h3⟩⟩
          have hd : decide (txtL k n t = s.data.toList) = true := by simpa using hq
          rw [hd]
          clear hq hd
          go_wp2
          refine bodyPost_ret (v := .tuple #[.agg #[.int .i64 k, .int .i64 n, .string t], .int .i64 0]) ?_ rfl ⟨HO.out, res_out R4.out⟩
          rw [results_cell_tmp rfl]; go_simp
        · have HO : Hid (∀ (k n : Int) (t : ByteArray), mayB k n t = true → inI64 n → txtL k n t ≠ s.data.toList) := fun k' n' t' h1 h2 h3 => by
            obtain ⟨rfl, rfl, rfl, _⟩ := HQ2.out k' n' t' h1 h2 h3
            exact hq h3
          have hd : decide (txtL k n t = s.data.toList) = false := by simpa using hq
          rw [hd]
          clear hq hd
          go_wp2
          refine bodyPost_ret (v := .tuple #[.agg #[.int .i64 0, .int .i64 0, .string ⟨#[]⟩], .int .i64 11]) ?_ rfl ⟨parse_no HO.out, res_out R4.out⟩
          rw [results_cell_tmp rfl]; go_simp
  · have hx1 : 3002 < (s.size : Int) := by omega
    have HN : Hid (∀ (k n : Int) (t : ByteArray), mayB k n t = true → inI64 n → txtL k n t ≠ s.data.toList) := fun k n t h1 h2 h3 => by
      have := txt_short k n t h1 h2.1 h2.2
      rw [h3, HSZ.out] at this
      omega
    have R0 := Lib.hid r0.low
    clear r0
    go_enter Tryz.func71, Tryz.ntmps71
    go_wp2
    refine bodyPost_ret (v := .tuple #[.agg #[.int .i64 0, .int .i64 0, .string ⟨#[]⟩], .int .i64 11]) ?_ rfl ⟨parse_no HN.out, R0.out⟩
    rw [results_cell_tmp rfl]; go_simp

end Go.Proofs.YthbighnkohjfnaaGreatDoor

/-
  CONTRACTS: what a word's value is, as a function; the kinds of brackets.
-/
namespace Go.Proofs.YthbighnkohjfnaaGreatDoor
open Go.RowKit Go.Shelf

open Classical in
/-- the value whose text a word is -/
noncomputable def pvL (l : Bs) : Option (Int × Int × Bs) :=
  if h : ∃ v : Int × Int × ByteArray, mayB v.1 v.2.1 v.2.2 = true ∧ inI64 v.2.1 ∧ txtL v.1 v.2.1 v.2.2 = l then some (h.choose.1, h.choose.2.1, h.choose.2.2.data.toList) else none
/-- what value.Parse answers -/
def pvV : Option (Int × Int × Bs) → Value
  | some v => .tuple #[.agg #[.int .i64 v.1, .int .i64 v.2.1, .string ⟨v.2.2.toArray⟩], .int .i64 0]
  | none => .tuple #[.agg #[.int .i64 0, .int .i64 0, .string ⟨#[]⟩], .int .i64 11]
theorem parseEnds_is {l : Bs} {e : Ending} (h : ParseEnds l e) : e = .returned (pvV (pvL l)) := by
  rcases h with ⟨k, n, t, rfl, hm, hn, _, ht, hu⟩ | ⟨rfl, hn⟩
  · have hx : ∃ v : Int × Int × ByteArray, mayB v.1 v.2.1 v.2.2 = true ∧ inI64 v.2.1 ∧ txtL v.1 v.2.1 v.2.2 = l := ⟨(k, n, t), hm, hn, ht⟩
    obtain ⟨e1, e2, e3⟩ := hu _ _ _ hx.choose_spec.1 hx.choose_spec.2.1 hx.choose_spec.2.2
    unfold pvL
    rw [dif_pos hx, ← e1, ← e2, ← e3]
    rfl
  · have hx : ¬ ∃ v : Int × Int × ByteArray, mayB v.1 v.2.1 v.2.2 = true ∧ inI64 v.2.1 ∧ txtL v.1 v.2.1 v.2.2 = l := fun ⟨v, h1, h2, h3⟩ => hn _ _ _ h1 h2 h3
    unfold pvL
    rw [dif_neg hx]
    rfl
theorem pv_any (s : ByteArray) (w : World) (hs : s.size ≤ maxLen) (herr : Errs w) (htab : Tab w) :
    Calls Tryz.prog 71 #[.string s] w fun e w' => e = .returned (pvV (pvL s.data.toList)) ∧ Below w.heap.size w w' :=
  (parse_any s w hs herr htab).mono fun _ _ h => ⟨parseEnds_is h.1, h.2⟩

set_option maxHeartbeats 400000 in
theorem opener_any (k : Int) (w : World) : Calls Tryz.prog 47 #[.int .i64 k] w fun e w' => e = .returned (.int .u8 (if k = 3 then 40 else if k = 4 then 91 else 123)) ∧ w = w' := by
  by_cases h3 : k = 3
  · subst h3
    go_enter Tryz.func47, Tryz.ntmps47
    go_wp2
    go_ret
    exact ⟨rfl, rfl⟩
  have hb3 : (k == 3) = false := beq_eq_false_iff_ne.2 h3
  rw [if_neg h3]
  by_cases h4 : k = 4
  · subst h4
    go_enter Tryz.func47, Tryz.ntmps47
    go_wp2
    go_ret
    exact ⟨rfl, rfl⟩
  have hb4 : (k == 4) = false := beq_eq_false_iff_ne.2 h4
  rw [if_neg h4]
  go_enter Tryz.func47, Tryz.ntmps47
  go_wp2
  go_ret
  exact ⟨rfl, rfl⟩
set_option maxHeartbeats 400000 in
theorem closer_any (k : Int) (w : World) : Calls Tryz.prog 48 #[.int .i64 k] w fun e w' => e = .returned (.int .u8 (if k = 3 then 41 else if k = 4 then 93 else 125)) ∧ w = w' := by
  by_cases h3 : k = 3
  · subst h3
    go_enter Tryz.func48, Tryz.ntmps48
    go_wp2
    go_ret
    exact ⟨rfl, rfl⟩
  have hb3 : (k == 3) = false := beq_eq_false_iff_ne.2 h3
  rw [if_neg h3]
  by_cases h4 : k = 4
  · subst h4
    go_enter Tryz.func48, Tryz.ntmps48
    go_wp2
    go_ret
    exact ⟨rfl, rfl⟩
  have hb4 : (k == 4) = false := beq_eq_false_iff_ne.2 h4
  rw [if_neg h4]
  go_enter Tryz.func48, Tryz.ntmps48
  go_wp2
  go_ret
  exact ⟨rfl, rfl⟩
set_option maxHeartbeats 1000000 in
theorem kindOf_any (c : UInt8) (kc : Int × UInt8) (hc : openC c = some kc) (w : World) : Calls Tryz.prog 70 #[.int .u8 (c.toNat : Int)] w fun e w' => e = .returned (.int .i64 kc.1) ∧ w = w' := by
  have H3 : ∀ W, Calls Tryz.prog 47 #[.int .i64 3] W fun e w' => e = .returned (.int .u8 40) ∧ W = w' := fun W => opener_any 3 W
  have H4 : ∀ W, Calls Tryz.prog 47 #[.int .i64 4] W fun e w' => e = .returned (.int .u8 91) ∧ W = w' := fun W => opener_any 4 W
  unfold openC at hc
  by_cases h1 : c = 40
  · subst h1
    rw [if_pos rfl] at hc
    cases hc
    show Calls _ _ #[.int .u8 40] _ _
    go_enter Tryz.func70, Tryz.ntmps70
    go_wp2_with fail
    refine (H3 _).mono ?_
    rintro e w' ⟨rfl, rfl⟩
    go_wp2
    go_ret
    exact ⟨rfl, rfl⟩
  rw [if_neg h1] at hc
  by_cases h2 : c = 91
  · subst h2
    rw [if_pos rfl] at hc
    cases hc
    show Calls _ _ #[.int .u8 91] _ _
    go_enter Tryz.func70, Tryz.ntmps70
    go_wp2_with fail
    refine (H3 _).mono ?_
    rintro e w' ⟨rfl, rfl⟩
    go_wp2_with fail
    refine (H4 _).mono ?_
    rintro e w' ⟨rfl, rfl⟩
    go_wp2
    go_ret
    exact ⟨rfl, rfl⟩
  rw [if_neg h2] at hc
  by_cases h3 : c = 123
  · subst h3
    rw [if_pos rfl] at hc
    cases hc
    show Calls _ _ #[.int .u8 123] _ _
    go_enter Tryz.func70, Tryz.ntmps70
    go_wp2_with fail
    refine (H3 _).mono ?_
    rintro e w' ⟨rfl, rfl⟩
    go_wp2_with fail
    refine (H4 _).mono ?_
    rintro e w' ⟨rfl, rfl⟩
    go_wp2
    go_ret
    exact ⟨rfl, rfl⟩
  rw [if_neg h3] at hc
  cases hc
end Go.Proofs.YthbighnkohjfnaaGreatDoor

/-
  CONTRACT: close (the bracket that closes the last one that is open).
-/
namespace Go.Proofs.YthbighnkohjfnaaGreatDoor
open Go.RowKit

/-- a node put where it belongs -/
def putA (done : List Nd) (op : List (Int × (Nat × Nat) × List Nd)) (x : Nd) : List Nd × List (Int × (Nat × Nat) × List Nd) := match op.reverse with
  | [] => (done ++ [x], [])
  | (k, p, l) :: r => (done, r.reverse ++ [(k, p, l ++ [x])])
theorem putA_nil (done : List Nd) (x : Nd) : putA done [] x = (done ++ [x], []) := rfl
theorem putA_snoc (done : List Nd) (op : List (Int × (Nat × Nat) × List Nd)) (k : Int) (p : Nat × Nat) (l : List Nd) (x : Nd) : putA done (op ++ [(k, p, l)]) x = (done, op ++ [(k, p, l ++ [x])]) := by
  unfold putA
  simp
def Opn.abs (x : Opn) : Int × (Nat × Nat) × List Nd := (x.k, x.p, x.l.map (·.1))
/-- the reader, as lists -/
def RdA (lo : Nat) (W : World) (b : Nat) (done : List Nd) (op : List (Int × (Nat × Nat) × List Nd)) (size t : Nat) : Prop :=
  ∃ vd vo d o, RdS lo W b vd vo d o size t ∧ d.map (·.1) = done ∧ o.map Opn.abs = op
theorem RdA.next {lo b size t : Nat} {W W' : World} {done : List Nd} {op : List (Int × (Nat × Nat) × List Nd)} (h : RdA lo W b done op size t) (hb : Below W.heap.size W W') : RdA lo W' b done op size t := by
  obtain ⟨vd, vo, d, o, h1, h2, h3⟩ := h
  exact ⟨vd, vo, d, o, h1.next hb, h2, h3⟩
theorem snoc_or {α : Type} (l : List α) : l = [] ∨ ∃ m x, l = m ++ [x] := by
  rcases List.eq_nil_or_concat l with h | ⟨m, x, h⟩
  · exact .inl h
  · exact .inr ⟨m, x, by rw [h, List.concat_eq_append]⟩
/-- add, whole -/
theorem add_any (lo b : Nat) (vd vo : Value) (d : List Ek) (o : List Opn) (size t : Nat) (X : Nd) (KA : Option Addr) (c : Nat) (w : World) (h : RdS lo w b vd vo d o size t)
    (hn : SlN (50 - o.length) w (Fz lo w (rowsR vd vo d o)) KA X.kids) (hlo : lo ≤ w.heap.size) (hlob : lo ≤ b) (ht : t ≤ 100000) :
    Calls Tryz.prog 55 #[.pointer (some ⟨b, 0, none⟩), .agg #[.int .i64 X.k, .int .i64 X.vk, .int .i64 X.vn, .string X.vs, .string X.s, .slice KA X.kids.length c, .int .i64 X.ln, .int .i64 X.co]] w fun e w' =>
      e = .returned (.tuple #[]) ∧ RdA lo w' b (putA (d.map (·.1)) (o.map Opn.abs) X).1 (putA (d.map (·.1)) (o.map Opn.abs) X).2 size (t + 1) ∧ Below lo w w' ∧ KeepTx w w' := by
  rcases snoc_or o with rfl | ⟨op, x, rfl⟩
  · refine (add_done lo b vd vo d size t X KA c w h hn hlo hlob ht).mono ?_
    rintro e w' ⟨rfl, vd', h1, h2, h3⟩
    refine ⟨rfl, ⟨vd', vo, _, _, h1, ?_, rfl⟩, h2, h3⟩
    rw [List.map_append]
    rfl
  · refine (add_kid lo b vd vo d op x size t X KA c w h (by rw [List.length_append, List.length_singleton] at hn; exact (show 50 - (op.length + 1) = 49 - op.length by omega) ▸ hn) hlo ht).mono ?_
    rintro e w' ⟨rfl, A', c', h1, h2, h3⟩
    refine ⟨rfl, ⟨vd, vo, _, _, h1, ?_, ?_⟩, h2, h3⟩
    · rw [List.map_append]
      show _ = (putA _ (_ ++ [(x.k, x.p, x.l.map (·.1))]) X).1
      rw [putA_snoc]
    · rw [List.map_append, List.map_append]
      show _ = (putA _ (_ ++ [(x.k, x.p, x.l.map (·.1))]) X).2
      rw [putA_snoc]
      show _ ++ [(x.k, x.p, (x.l ++ [(X, KA, c)]).map (·.1))] = _
      rw [List.map_append]
      rfl
/-- the bracket that is open last is taken off -/
theorem RdS.pop {lo b size t go co : Nat} {W W' : World} {vd : Value} {d : List Ek} {op : List Opn} {x : Opn} (h : RdS lo W b vd (.slice (some ⟨go, 0, none⟩) (op.length + 1) co) d (op ++ [x]) size t) (ht : t ≤ 100000) (hW : W.setCell ⟨b, 1, none⟩ (.slice (some ⟨go, 0, none⟩) op.length co) = W') :
    RdS lo W' b vd (.slice (some ⟨go, 0, none⟩) op.length co) d op size t ∧ SlN (50 - op.length) W' (Fz lo W' (rowsR vd (.slice (some ⟨go, 0, none⟩) op.length co) d op)) x.A x.nd.kids := by
  have hk : KeepNd W W' := by rw [← hW]; exact KeepNd.setBox h.box
  have hbx : W'.heap[b]? = some (.cells #[vd, .slice (some ⟨go, 0, none⟩) op.length co, .int .i64 (size : Int)] 41 (0, 0)) := by
    rw [← hW, heap_setCell_same _ _ _ _ _ _ h.box]
    rfl
  have ho := h.rowO
  rw [List.length_append, List.length_singleton, List.map_append] at ho
  have ho2 : W.ownsRow lo 37 8 (.slice (some ⟨go, 0, none⟩) op.length co) op.length (catN (op.map Opn.ek)) := ownsRow_pop (last := cellsN x.nd (.slice x.A x.nd.kids.length x.c)) (by rw [catN_len, List.length_map]) (by
    have e : catN (op.map Opn.ek ++ [x].map Opn.ek) = catN (op.map Opn.ek) ++ cellsN x.nd (.slice x.A x.nd.kids.length x.c) := catN_snoc _ x.ek
    rw [← e]
    exact ho)
  obtain ⟨hl1, hF1⟩ := h.lv.put (i := 1) (v := .slice (some ⟨go, 0, none⟩) (op.length + 1) co) (l := (op ++ [x]).map Opn.ek) (v' := .slice (some ⟨go, 0, none⟩) op.length co) (l' := op.map Opn.ek) rfl (by rw [List.length_map]; exact ho2) ⟨rfl, rfl, rfl, Nat.le_refl _, fun _ _ _ => rfl⟩ (.inl rfl)
  have hR : (rowsR vd (.slice (some ⟨go, 0, none⟩) (op.length + 1) co) d (op ++ [x])).set 1 (.slice (some ⟨go, 0, none⟩) op.length co, op.map Opn.ek) = rowsR vd (.slice (some ⟨go, 0, none⟩) op.length co) d op ++ [(x.v, x.l)] := by
    show (vd, d) :: (_, _) :: (op ++ [x]).map (fun x => (x.v, x.l)) = _
    rw [List.map_append]
    rfl
  rw [hR] at hl1 hF1
  obtain ⟨hl2, hF2, hF3⟩ := hl1.less
  have key : ∀ (n : Nat) (A : Option Addr) (l : List Nd), SlN n W (Fz lo W (rowsR vd (.slice (some ⟨go, 0, none⟩) (op.length + 1) co) d (op ++ [x]))) A l → SlN n W (Fz lo W (rowsR vd (.slice (some ⟨go, 0, none⟩) op.length co) d op)) A l :=
    fun n A l hs => hs.mono fun g hg => hF2 g (hF1 g hg).2
  have hx : (op ++ [x])[op.length]? = some x := by simp
  have hdp := h.deep
  rw [List.length_append, List.length_singleton] at hdp
  refine ⟨⟨hbx, hl2.keep hk, fun e he => (key _ _ _ (h.dn e he)).keepN hk, fun i y hy e he => (key _ _ _ (h.kd i y (by rw [List.getElem?_append_left (List.getElem?_eq_some_iff.1 hy).1]; exact hy) e he)).keepN hk, by omega, h.dl, fun y hy => h.kl y (List.mem_append_left _ hy)⟩, ?_⟩
  have hs := sl_row (d := 49 - op.length) (h.rowK hx) hF3 (by have := h.kl x (by simp); omega) (fun e he => key _ _ _ (h.kd op.length x hx e he))
  rw [show 49 - op.length + 1 = 50 - op.length by omega] at hs
  exact hs.keepN hk
def closeV (k : Int) : Int := if k = 3 then 41 else if k = 4 then 93 else 125
/-- what close leaves -/
def CloseEnd (lo b size t : Nat) (done : List Nd) (op : List (Int × (Nat × Nat) × List Nd)) (c : UInt8) (w : World) (e : Ending) (w' : World) : Prop :=
  (match op.reverse with
    | [] => e = .returned (.bool false)
    | (k, p, l) :: r => if closeV k = (c.toNat : Int) then e = .returned (.bool true) ∧ RdA lo w' b (putA done r.reverse (.mk k 0 0 ⟨#[]⟩ ⟨#[]⟩ l (p.1 : Int) (p.2 : Int))).1 (putA done r.reverse (.mk k 0 0 ⟨#[]⟩ ⟨#[]⟩ l (p.1 : Int) (p.2 : Int))).2 size (t + 1) else e = .returned (.bool false)) ∧ Below lo w w' ∧ KeepTx w w'
set_option maxRecDepth 100000 in
set_option maxHeartbeats 4000000 in
theorem close_any (lo b : Nat) (done : List Nd) (op : List (Int × (Nat × Nat) × List Nd)) (size t : Nat) (c : UInt8) (w : World) (h : RdA lo w b done op size t) (hlo : lo ≤ w.heap.size) (hlob : lo ≤ b) (ht : t ≤ 100000) :
    Calls Tryz.prog 37 #[.pointer (some ⟨b, 0, none⟩), .int .u8 (c.toNat : Int)] w fun e w' => CloseEnd lo b size t done op c w e w' := by
  obtain ⟨vd, vo, d, o, hr, rfl, rfl⟩ := h
  unfold CloseEnd
  rcases snoc_or o with rfl | ⟨op, x, rfl⟩
  · obtain ⟨Ao, co, rfl⟩ : ∃ Ao co, vo = .slice Ao 0 co := by
      rcases hr.rowO.2 with ⟨rfl, _⟩ | ⟨g, cap, _, rfl, _⟩
      · exact ⟨none, 0, rfl⟩
      · exact ⟨_, _, rfl⟩
    have c1 := hr.cell 1
    have hw : IntKind.i64.wrap ((0 : Int) - 1) = -1 := by decide
    go_enter Tryz.func37, Tryz.ntmps37
    go_wp2_with fail
    go_ret
    exact ⟨rfl, Below.refl _ _, KeepTx.refl _⟩
  · obtain ⟨go, co, rfl⟩ : ∃ go co, vo = .slice (some ⟨go, 0, none⟩) (op.length + 1) co := by
      have := hr.rowO
      rw [List.length_append, List.length_singleton] at this
      exact ownsRow_succ this
    have hrev : ((op ++ [x]).map Opn.abs).reverse = (x.k, x.p, x.l.map (·.1)) :: (op.map Opn.abs).reverse := by rw [List.map_append, List.reverse_append]; rfl
    rw [hrev]
    simp only []
    rw [List.reverse_reverse]
    have hdeep : op.length + 1 ≤ 50 := by have := hr.deep; rwa [List.length_append, List.length_singleton] at this
    have hor : w.ownsRow lo 37 8 (.slice (some ⟨go, 0, none⟩) (op.length + 1) co) (op.length + 1) (catN ((op ++ [x]).map Opn.ek)) := by have := hr.rowO; rwa [List.length_append, List.length_singleton] at this
    have hoc : ∀ i, i < 8 → w.cell? ⟨go, op.length * 8 + i, none⟩ = (cellsN x.nd x.v)[i]? := fun i hi => by rw [hor.cellAt (op.length * 8 + i) (by omega), catO_at op x i hi]
    have k0 : w.cell? ⟨go, op.length * 8, none⟩ = some (.int .i64 x.k) := hoc 0 (by decide)
    have k1 : w.cell? ⟨go, op.length * 8 + 1, none⟩ = some (.int .i64 0) := hoc 1 (by decide)
    have k2 : w.cell? ⟨go, op.length * 8 + 2, none⟩ = some (.int .i64 0) := hoc 2 (by decide)
    have k3 : w.cell? ⟨go, op.length * 8 + 3, none⟩ = some (.string ⟨#[]⟩) := hoc 3 (by decide)
    have k4 : w.cell? ⟨go, op.length * 8 + 4, none⟩ = some (.string ⟨#[]⟩) := hoc 4 (by decide)
    have k5 : w.cell? ⟨go, op.length * 8 + 5, none⟩ = some (.slice x.A x.l.length x.c) := hoc 5 (by decide)
    have k6 : w.cell? ⟨go, op.length * 8 + 6, none⟩ = some (.int .i64 (x.p.1 : Int)) := hoc 6 (by decide)
    have k7 : w.cell? ⟨go, op.length * 8 + 7, none⟩ = some (.int .i64 (x.p.2 : Int)) := hoc 7 (by decide)
    have c1 := hr.cell 1
    have f1 := hr.fz 1
    have hw : IntKind.i64.wrap (((op.length + 1 : Nat) : Int) - 1) = (op.length : Int) := by rw [show ((op.length + 1 : Nat) : Int) - 1 = (op.length : Int) by omega]; exact IntWalk.i64_in _ (by omega)
    have hix : (op.length : Int) < (op.length : Int) + 1 := by omega
    have hi0 : (0 : Int) ≤ (op.length : Int) := by omega
    have hi1 : decide ((op.length : Int) < 0) = false := decide_eq_false (by omega)
    have HC : ∀ W, Hid (Calls Tryz.prog 48 #[.int .i64 x.k] W fun e w' => e = .returned (.int .u8 (closeV x.k)) ∧ W = w') := fun W => closer_any x.k W
    have hcap : op.length ≤ co := by
      rcases hor.2 with ⟨e, _⟩ | ⟨g, cap, cur, e, _, _, h, _⟩
      · cases e
      · cases e
        omega
    have HR := Lib.hid hr
    clear hr hor hoc hrev
    by_cases hc : closeV x.k = (c.toNat : Int)
    · simp only [if_pos hc]
      have hcb : (closeV x.k != (c.toNat : Int)) = false := by rw [hc]; simp
      have hb1 : Below w.heap.size w (w.alloc (.cells #[.int .i64 x.k, .int .i64 0, .int .i64 0, .string ⟨#[]⟩, .string ⟨#[]⟩, .slice x.A x.l.length x.c, .int .i64 (x.p.1 : Int), .int .i64 (x.p.2 : Int)] 37)) := (Below.refl _ _).alloc (Nat.le_refl _) _
      have d1 := (HR.out.next hb1).cell 1
      have g1 := (HR.out.next hb1).fz 1
      have HB1 := Lib.hid hb1
      clear hb1
      go_enter Tryz.func37, Tryz.ntmps37
      go_wp2_with fail
      refine (HC _).out.mono ?_
      rintro e w' ⟨rfl, rfl⟩
      go_upto_region 6 with (fail)
      clear k0 k1 k2 k3 k4 k5 k6 k7 c1 f1 d1 g1
      have hN1 : (w.alloc (.cells #[.int .i64 x.k, .int .i64 0, .int .i64 0, .string ⟨#[]⟩, .string ⟨#[]⟩, .slice x.A x.l.length x.c, .int .i64 (x.p.1 : Int), .int .i64 (x.p.2 : Int)] 37)).heap[w.heap.size]? = some (.cells #[.int .i64 x.k, .int .i64 0, .int .i64 0, .string ⟨#[]⟩, .string ⟨#[]⟩, .slice x.A x.l.length x.c, .int .i64 (x.p.1 : Int), .int .i64 (x.p.2 : Int)] 37 (0, 0)) := heap_alloc_new w _
      obtain ⟨w1, hw1⟩ : ∃ w1, w.alloc (.cells #[.int .i64 x.k, .int .i64 0, .int .i64 0, .string ⟨#[]⟩, .string ⟨#[]⟩, .slice x.A x.l.length x.c, .int .i64 (x.p.1 : Int), .int .i64 (x.p.2 : Int)] 37) = w1 := ⟨_, rfl⟩
      rw [hw1] at HB1 hN1 ⊢
      obtain ⟨w2, hw2⟩ : ∃ w2, w1.setCell ⟨b, 1, none⟩ (.slice (some ⟨go, 0, none⟩) op.length co) = w2 := ⟨_, rfl⟩
      obtain ⟨hr2, hs2⟩ := (HR.out.next HB1.out).pop ht hw2
      have hbx := HR.out.box
      have hbx1 := (HR.out.next HB1.out).box
      have hk2 : KeepTx w1 w2 := by rw [← hw2]; exact KeepTx.setBox hbx1
      have hnd2 : KeepNd w1 w2 := by rw [← hw2]; exact KeepNd.setBox hbx1
      have hbl2 : Below lo w1 w2 := by rw [← hw2]; exact (Below.refl lo w1).setCell (p := ⟨b, 1, none⟩) hlob _
      have hN2 := (hnd2.same _ _ hN1).trans hN1
      rw [hw2]
      have HA := Lib.hid (add_any lo b vd (.slice (some ⟨go, 0, none⟩) op.length co) d op size t x.nd x.A x.c w2 hr2 hs2 (Nat.le_trans hlo (Nat.le_trans HB1.out.size hbl2.size)) hlob ht)
      have HB2 := Lib.hid ((HB1.out.mono hlo).trans hbl2)
      have HT2 := Lib.hid ((KeepTx.of_below HB1.out).trans hk2)
      have m0 := nod_cell hN2 0
      have m1 := nod_cell hN2 1
      have m2 := nod_cell hN2 2
      have m3 := nod_cell hN2 3
      have m4 := nod_cell hN2 4
      have m5 := nod_cell hN2 5
      have m6 := nod_cell hN2 6
      have m7 := nod_cell hN2 7
      clear hw1 hw2 hr2 hs2 hbx hbx1 hk2 hnd2 hbl2 hN1 hN2
      go_wp2_with fail
      rw [Opn.kids_len] at HA
      refine HA.out.mono ?_
      rintro e w3 ⟨rfl, h3, hb3, hk3⟩
      go_wp2
      go_ret
      exact ⟨⟨rfl, h3⟩, HB2.out.trans hb3, HT2.out.trans hk3⟩
    · simp only [if_neg hc]
      have hcb : (closeV x.k != (c.toNat : Int)) = true := by simpa using hc
      go_enter Tryz.func37, Tryz.ntmps37
      go_wp2_with fail
      refine (HC _).out.mono ?_
      rintro e w' ⟨rfl, rfl⟩
      go_wp2_with fail
      go_ret
      exact ⟨rfl, Below.refl _ _, KeepTx.refl _⟩
end Go.Proofs.YthbighnkohjfnaaGreatDoor
