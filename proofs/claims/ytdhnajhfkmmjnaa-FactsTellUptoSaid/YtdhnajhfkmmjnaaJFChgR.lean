import Derived.Calls
import Derived.Test.YtdhnajhfkmmjnaaJDComp
import Derived.Test.YtdhnajhfkmmjnaaJDSl
import Derived.Test.YtdhnajhfkmmjnaaJDCmp
import Derived.Test.YtdhnajhfkmmjnaaJLeaf
import Derived.Test.YtdhnajhfkmmjnaaJDRefS
import Derived.Test.YtdhnajhfkmmjnaaJFRunT
import Derived.Test.YtdhnajhfkmmjnaaJFFindR
import Derived.Test.YtdhnajhfkmmjnaaJFMayR
import Derived.Test.YtdhnajhfkmmjnaaJFLessR
import Derived.Test.YtdhnajhfkmmjnaaJFChL
import Derived.Test.YtdhnajhfkmmjnaaJVSl
/-
  THE LAW DatomSorts.
-/
namespace Go.Proofs.Ytdhnajhfkmmjnaa
open Go.RowKit Go.Shelf

theorem compG_len2 {α : Type} {o : α → α → Int} : ∀ l : List α, (compG o l).length ≤ l.length
  | [] => Nat.le_refl _
  | [x] => Nat.le_refl _
  | x :: y :: r => by
    have := compG_len2 (o := o) (y :: r)
    unfold compG
    split
    · simp at this ⊢; omega
    · simp at this ⊢; omega
theorem sortsD_len (o : Int) (l : List Dat) : (sortsD o l).length ≤ l.length := by
  unfold sortsD
  split
  · rename_i h
    rw [← sorted_once (ordD_is h)]
    exact Nat.le_trans (compG_len2 _) (Nat.le_trans (Nat.le_of_eq (riseG_len _)) (List.length_filter_le _ _))
  · exact Nat.zero_le _
set_option maxRecDepth 100000 in
set_option maxHeartbeats 1000000 in
theorem refSortD_any (o : Int) (A : Option Addr) (c : Nat) (l : List Dat) (w : World) (hs : SlD w w.heap.size A l) (hl : l.length * 80 ≤ 140737488355328) (hz : ∀ v ∈ l, v.s.size ≤ maxLen) :
    Calls Try.prog 48 #[.int .i64 o, .slice A l.length c] w fun e w' => ∃ v, e = .returned v ∧ OwnD w' w.heap.size v (sortsD o l) ∧ Below w.heap.size w w' := by
  cases ho : isO o with
  | true =>
    have e : sortsD o l = putsG (ordD o) (l.filter (hasD o)) := by unfold sortsD; rw [if_pos ho]
    rw [e]
    exact refSortD_yes o ho A c l w hs hl hz
  | false =>
    have e : sortsD o l = [] := by unfold sortsD; rw [if_neg (by rw [ho]; exact Bool.false_ne_true)]
    rw [e]
    rcases noO ho with h | ⟨h, h'⟩
    · clear ho hs hz
      go_enter Try.func48, Try.ntmps48
      go_wp2
      go_ret
      exact ⟨_, rfl, World.ownsRow_nil _ _ _ _, Below.refl _ _⟩
    · clear ho hs hz
      go_enter Try.func48, Try.ntmps48
      go_wp2
      go_ret
      exact ⟨_, rfl, World.ownsRow_nil _ _ _ _, Below.refl _ _⟩

end Go.Proofs.Ytdhnajhfkmmjnaa

/-
  CONTRACT of the document's own answer: Changes.
-/
namespace Go.Proofs.Ytdhnajhfkmmjnaa
open Go.RowKit Go.Shelf

theorem lessF_len {b : List FactP} {t : Int} {add : Bool} {f : FactP} (hf : f.l.length ≤ 1000) (hb : ∀ g ∈ b, g.l.length ≤ 1000) : (lessF b t add f).length ≤ 2000 := by
  unfold lessF
  rw [List.length_map]
  have h1 := minus_le f.l (spansOf b (triF f))
  have h2 := spansOf_le (x := triF f) hb
  omega
theorem lessL_len {b : List FactP} {t : Int} {add : Bool} (hb : ∀ g ∈ b, g.l.length ≤ 1000) : ∀ (a : List FactP), (∀ f ∈ a, f.l.length ≤ 1000) → (lessL a b t add).length ≤ a.length * 2000
  | [], _ => Nat.zero_le _
  | f :: a, ha => by
    have h1 := lessL_len (t := t) (add := add) hb a (fun q hq => ha q (List.mem_cons_of_mem _ hq))
    have h2 := lessF_len (t := t) (add := add) (ha f List.mem_cons_self) hb
    unfold lessL at h1 ⊢
    rw [List.flatMap_cons, List.length_append, List.length_cons]
    omega
theorem lessL_str {a b : List FactP} {t : Int} {add : Bool} (ha : ∀ f ∈ a, f.s.size ≤ maxLen) {v : Dat} (h : v ∈ lessL a b t add) : v.s.size ≤ maxLen := by
  obtain ⟨f, hf, hd⟩ := List.mem_flatMap.1 h
  obtain ⟨s, _, rfl⟩ := List.mem_map.1 hd
  exact ha f hf
set_option maxRecDepth 100000 in
set_option maxHeartbeats 4000000 in
/-- CONTRACT of the document's own answer: Changes. -/
theorem refChanges_any (t : Int) (A B : Option Addr) (c d : Nat) (old now : List FactP) (w : World) (ha : FVa w (.slice A old.length c) old) (hb : FVa w (.slice B now.length d) now) (na : FNn w A old.length) (nb : FNn w B now.length) (hla : old.length ≤ 1000) (hlb : now.length ≤ 1000)
    (hza : ∀ f ∈ old, f.s.size ≤ maxLen ∧ f.l.length ≤ 1000) (hzb : ∀ f ∈ now, f.s.size ≤ maxLen ∧ f.l.length ≤ 1000) :
    Calls Try.prog 14 #[.slice A old.length c, .slice B now.length d, .int .i64 t] w (ChgEnd w old now t) := by
  obtain ⟨i0, hi, hz0, hz1, hz2⟩ := info_parts infoD
  have hmx : 2000000000000 ≤ maxLen := by decide
  have HM1 := Lib.hid (refMayF_any A c old w ha (by omega) (fun q hq => ⟨(hza q hq).1, by have := (hza q hq).2; omega⟩))
  have HM2 := Lib.hid (fun X (h : Below w.heap.size w X) => refMayF_any B d now X (hb.next h) (by omega) (fun q hq => ⟨(hzb q hq).1, by have := (hzb q hq).2; omega⟩))
  have HL1 := Lib.hid (fun X (h : Below w.heap.size w X) => less_any t true B A d c now old X (hb.next h) (ha.next h) (FNn.next nb hb h) (FNn.next na ha h) hlb hla hzb hza)
  have HL2 := Lib.hid (fun X (h : Below w.heap.size w X) => less_any t false A B c d old now X (ha.next h) (hb.next h) (FNn.next na ha h) (FNn.next nb hb h) hla hlb hza hzb)
  have N1 := Lib.hid (lessL_len (t := t) (add := true) (fun q hq => (hza q hq).2) now (fun q hq => (hzb q hq).2))
  have N2 := Lib.hid (lessL_len (t := t) (add := false) (fun q hq => (hzb q hq).2) old (fun q hq => (hza q hq).2))
  have Z1 := Lib.hid (fun (v : Dat) (h : v ∈ lessL now old t true) => lessL_str (fun f hf => (hzb f hf).1) h)
  have Z2 := Lib.hid (fun (v : Dat) (h : v ∈ lessL old now t false) => lessL_str (fun f hf => (hza f hf).1) h)
  have HCG : Hid (mayFs old = true → mayFs now = true → sortsD 1 (lessL now old t true ++ lessL old now t false) = chgL old now t) := fun h1 h2 => less_chg (of_decide_eq_true h1).2 (of_decide_eq_true h2).2 t
  obtain ⟨v1, hv1⟩ : ∃ v, mayFs old = v := ⟨_, rfl⟩
  obtain ⟨v2, hv2⟩ : ∃ v, mayFs now = v := ⟨_, rfl⟩
  rw [hv1] at HM1
  rw [hv2] at HM2
  have HV1 := Lib.hid hv1
  have HV2 := Lib.hid hv2
  obtain ⟨L1, hL1⟩ : ∃ L, lessL now old t true = L := ⟨_, rfl⟩
  obtain ⟨L2, hL2⟩ : ∃ L, lessL old now t false = L := ⟨_, rfl⟩
  unfold LsEnd at HL1 HL2
  rw [hL1] at HL1 N1 Z1 HCG
  rw [hL2] at HL2 N2 Z2 HCG
  obtain ⟨LL, hLL⟩ : ∃ LL, L1 ++ L2 = LL := ⟨_, rfl⟩
  have HNL : Hid (LL.length ≤ 4000000) := by
    have h1 := N1.out
    have h2 := N2.out
    show _ ≤ _
    rw [← hLL, List.length_append]
    omega
  have HZL : Hid (∀ v ∈ LL, v.s.size ≤ maxLen) := fun v hv => by
    rw [← hLL] at hv
    rcases List.mem_append.1 hv with h | h
    · exact Z1.out v h
    · exact Z2.out v h
  rw [hLL] at HCG
  have HLL := Lib.hid hLL
  have M1 : Hid (L1.length ≤ 2000000) := by have := N1.out; show _ ≤ _; omega
  have M2 : Hid (L2.length ≤ 2000000) := by have := N2.out; show _ ≤ _; omega
  clear ha hb na nb hza hzb hv1 hv2 hL1 hL2 hLL N1 N2 Z1 Z2
  go_enter Try.func14, Try.ntmps14
  go_wp2_with fail
  refine HM1.out.mono ?_
  rintro e9 w1 ⟨rfl, hb1⟩
  have HB1 := Lib.hid hb1
  clear hb1
  go_wp2_with fail
  refine (HM2.out _ HB1.out).mono ?_
  rintro e9 w2 ⟨rfl, hb2⟩
  have HB2 := Lib.hid (HB1.out.trans (hb2.mono HB1.out.size))
  clear hb2
  cases v1
  · go_wp2
    go_ret2
    exact ⟨⟨_, _, rfl, .inr (.inl ⟨by rw [HV1.out]; rfl, rfl, rfl⟩)⟩, HB2.out⟩
  cases v2
  · go_wp2
    go_ret2
    exact ⟨⟨_, _, rfl, .inr (.inl ⟨by rw [HV1.out, HV2.out]; rfl, rfl, rfl⟩)⟩, HB2.out⟩
  by_cases h1 : t < 1
  · have HT : Hid (txB t = false) := decide_eq_false (by omega)
    go_wp2
    go_ret2
    exact ⟨⟨_, _, rfl, .inr (.inr ⟨HV1.out, HV2.out, HT.out, rfl, rfl⟩)⟩, HB2.out⟩
  by_cases h2 : 1099511627776 < t
  · have HT : Hid (txB t = false) := decide_eq_false (by omega)
    go_wp2
    go_ret2
    exact ⟨⟨_, _, rfl, .inr (.inr ⟨HV1.out, HV2.out, HT.out, rfl, rfl⟩)⟩, HB2.out⟩
  have HT : Hid (txB t = true) := decide_eq_true (by omega)
  go_wp2_with fail
  refine (HL1.out _ HB2.out).mono ?_
  rintro e9 w3 ⟨⟨v3, rfl, ho3⟩, hb3⟩
  have HB3 := Lib.hid (HB2.out.trans (hb3.mono HB2.out.size))
  have HO3 := Lib.hid ho3
  have HS3 := Lib.hid hb3.size
  clear hb3 ho3
  go_wp2_with fail
  refine (HL2.out _ HB3.out).mono ?_
  rintro e9 w4 ⟨⟨v4, rfl, ho4⟩, hb4⟩
  obtain ⟨A4, c4, rfl, hs4, _, _, hA4, _⟩ := ho4.form
  have HB4 := Lib.hid (HB3.out.trans (hb4.mono HB3.out.size))
  have HO4 := Lib.hid (HO3.out.next hb4)
  have HA4 := Lib.hid hA4
  have HN4 := Lib.hid hs4.news
  have hb2s : w2.heap.size ≤ w4.heap.size := Nat.le_trans HS3.out hb4.size
  clear hb4 ho4 hs4 hA4
  go_wp2_with (at_builtin; refine wpList_append_any rfl _ _ 31 rfl w2.heap.size 76 i0 (.agg #[.int .i64 0, .int .i64 0, .int .i64 0, .int .i64 0, .string ⟨#[]⟩, .int .i64 0, .bool false, .int .i64 0, .int .i64 0]) 9 80 Try.underlying31 hi hz0 hz1 hz2 rfl (by decide) _ _ _ rfl HO4.out A4 L2.length c4 (L2.flatMap cellsD) rfl (flatD_len L2) HA4.out HN4.out (cellsD_all L2) (by have h1 := M1.out; have h2 := M2.out; omega) (by have h1 := M1.out; have h2 := M2.out; omega) hb2s ?_; intro v5 w5 hown hgrow; have HV5 : Hid (OwnD w5 w2.heap.size v5 LL) := (by rw [← HLL.out]; exact ownD_of hown); have HB5 : Hid (Below w.heap.size w w5) := HB4.out.trans ((below_ownD HO4.out hgrow hb2s).mono HB2.out.size); clear hown hgrow; obtain ⟨A5, c5, rfl, hs5, _⟩ := HV5.out.form; have HC := Lib.hid (refSortD_any 1 A5 c5 LL w5 hs5 (by have := HNL.out; omega) HZL.out); clear hs5)
  refine HC.out.mono ?_
  rintro e9 w6 ⟨v6, rfl, ho6, hb6⟩
  have HB6 := Lib.hid (HB5.out.trans (hb6.mono HB5.out.size))
  rw [HCG.out HV1.out HV2.out] at ho6
  have HO6 := Lib.hid (ho6.low HB5.out.size)
  clear ho6 hb6
  go_wp2
  go_ret2
  exact ⟨⟨_, _, rfl, .inl ⟨HV1.out, HV2.out, HT.out, rfl, HO6.out⟩⟩, HB6.out⟩

end Go.Proofs.Ytdhnajhfkmmjnaa
