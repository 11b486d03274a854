/-
  THE LAW SpanSets: its walk.
-/
import Derived.Test.YtefekkcmoambhaaSCovA
namespace Go.Proofs.Ytefekkcmoambhaa
open Go.RowKit Go.Shelf

theorem check_is (A : Option Addr) (c : Nat) (l : List Sp) (w : World) (v : Bool) (hv : setB l = v) (hs : SlS w w.heap.size A l) (hl : l.length ≤ 100000) :
    Calls Try.prog 23 #[.slice A l.length c] w fun e w' => e = .returned (.int .i64 (if v then 0 else 30)) ∧ Below w.heap.size w w' := by
  subst hv; exact checkS_any A c l w hs hl
theorem rSet_is (A : Option Addr) (c : Nat) (l : List Sp) (w : World) (v : Bool) (hv : setB l = v) (hs : SlS w w.heap.size A l) (hl : l.length ≤ 1000) :
    Calls Try.prog 21 #[.slice A l.length c] w fun e w' => e = .returned (.bool v) ∧ ∃ n, w' = w.drewN n := by
  subst hv; exact refSet_any A c l w w.heap.size hs (by omega)
theorem rIn_is (A : Option Addr) (c : Nat) (l : List Sp) (t : Int) (w : World) (v : Bool) (hv : innB l t = v) (hs : SlS w w.heap.size A l) (hl : l.length ≤ 1000) :
    Calls Try.prog 25 #[.slice A l.length c, .int .i64 t] w fun e w' => e = .returned (.bool v) ∧ ∃ n, w' = w.drewN n := by
  subst hv; exact refIn_any A c l t w w.heap.size hs (by omega)
/-- a slice that reads as spans -/
def Sl (W : World) (A : Option Addr) (l : List Sp) : Prop := SlS W W.heap.size A l
theorem Sl.next {W W' : World} {A : Option Addr} {l : List Sp} (h : Sl W A l) (hb : Below W.heap.size W W') : Sl W' A l := (SlS.next h hb (Nat.le_refl _)).more hb.size
theorem cov_is (A A' : Option Addr) (c c' : Nat) (a b : List Sp) (w : World) (v : Bool) (hv : covB a b = v) (hs : SlS w w.heap.size A a) (hs' : SlS w w.heap.size A' b) (hlc : a.length ≤ c) (hc : c ≤ maxLen) (hlc' : b.length ≤ c') (hc' : c' ≤ maxLen)
    (hl : 2 * a.length + 2 * b.length ≤ 1000) (hka : ∀ s ∈ a, SpOk s) (hkb : ∀ s ∈ b, SpOk s) :
    Calls Try.prog 26 #[.slice A a.length c, .slice A' b.length c'] w fun e w' => e = .returned (.bool v) ∧ Below w.heap.size w w' := by
  subst hv; exact coversS_any A A' c c' a b w hs hs' hlc hc hlc' hc' hl hka hkb
theorem rCov_is (A A' : Option Addr) (c c' : Nat) (a b : List Sp) (w : World) (v : Bool) (hv : covB a b = v) (hs : SlS w w.heap.size A a) (hs' : SlS w w.heap.size A' b) (hA : A = none → a.length = 0 ∧ c = 0) (hA' : A' = none → b.length = 0 ∧ c' = 0) (hla : a.length ≤ 100) (hlb : b.length ≤ 100) :
    Calls Try.prog 27 #[.slice A a.length c, .slice A' b.length c'] w fun e w' => e = .returned (.bool v) ∧ Below w.heap.size w w' := by
  subst hv; exact refCovers_any A A' c c' a b w hs hs' hA hA' hla hlb
/-- slices that read as spans, all of them -/
def Al (W : World) (xs : List (Option Addr × List Sp)) : Prop := ∀ p ∈ xs, Sl W p.1 p.2
theorem Al.next {W W' : World} {xs : List (Option Addr × List Sp)} (h : Al W xs) (hb : Below W.heap.size W W') : Al W' xs := fun p hp => (h p hp).next hb
theorem Al.cons {W : World} {xs : List (Option Addr × List Sp)} {A : Option Addr} {l : List Sp} (h : Al W xs) (hs : Sl W A l) : Al W ((A, l) :: xs) := fun p hp => by
  rcases List.mem_cons.1 hp with rfl | hp
  · exact hs
  · exact h p hp
theorem ownS_zero (W : World) (B : Nat) (hB : B ≤ W.heap.size) : OwnS (W.alloc (.cells #[] 74)) B (.slice (some ⟨W.heap.size, 0, none⟩) 0 0) [] :=
  ⟨rfl, .inr ⟨W.heap.size, 0, #[], rfl, hB, heap_alloc_new W _, Nat.le_refl _, Nat.zero_le _, rfl, rfl⟩⟩

set_option maxRecDepth 100000 in
set_option maxHeartbeats 8000000 in
theorem setsL_any (A A' : Option Addr) (c c' : Nat) (a b : List Sp) (t : Int) (w : World) (hs : SlS w w.heap.size A a) (hs' : SlS w w.heap.size A' b) (hA : A = none → a.length = 0 ∧ c = 0) (hA' : A' = none → b.length = 0 ∧ c' = 0)
    (hka : ∀ s ∈ a, SpOk s) (hkb : ∀ s ∈ b, SpOk s) :
    Calls Try.prog 4 #[.slice A a.length c, .slice A' b.length c', .int .i64 t] w fun e w' => e = .returned (.bool true) ∧ Below w.heap.size w w' := by
  have HG := Lib.hid (show Sl w A a ∧ Sl w A' b from ⟨hs, hs'⟩)
  have HNA := Lib.hid hA
  have HNB := Lib.hid hA'
  have HK := Lib.hid (And.intro hka hkb)
  obtain ⟨i0, hi, hz0, hz1, hz2⟩ := info_parts info92
  have hmx : 50000 ≤ maxLen := by decide
  clear hs hs' hA hA' hka hkb
  by_cases h1 : (60 : Int) < (a.length : Int)
  · go_enter Try.func4, Try.ntmps4
    go_wp2
    go_ret
    exact ⟨rfl, Below.refl _ _⟩
  by_cases h2 : (60 : Int) < (b.length : Int)
  · go_enter Try.func4, Try.ntmps4
    go_wp2
    go_ret
    exact ⟨rfl, Below.refl _ _⟩
  have hla : a.length ≤ 60 := by omega
  have hlb : b.length ≤ 60 := by omega
  have HLEN := Lib.hid (And.intro (makeL_len a) (And.intro (twoL_len orF a b) (And.intro (twoL_len andF a b) (twoL_len notF a b))))
  have HL0 := Lib.hid (ownS_zero w w.heap.size (Nat.le_refl _))
  have HNW1 : Hid (∀ ad, A = some ad → ∀ j u, (a.flatMap cellsS)[j]? = some u → (w.alloc (.cells #[] 74)).cell? (ad.add j) = some u) := fun ad h j u hu => (HG.out.1.next ((Below.refl _ _).alloc (Nat.le_refl _) _)).news ad h j u hu
  have tok1 : True := trivial
  go_enter Try.func4, Try.ntmps4
  go_wp2_with (first | (at_builtin; have _t := tok1; refine wpList_append_any rfl _ _ 28 rfl w.heap.size 74 i0 (.agg #[.int .i64 0, .int .i64 0]) 2 16 Try.underlying28 hi hz0 hz1 hz2 rfl (by decide) _ _ _ rfl HL0.out A a.length c (a.flatMap cellsS) rfl (flatS_len a) HNA.out HNW1.out (cellsS_all a) (by simp; omega) (by simp; omega) (by simp) ?_; intro v1 w1 hown' hgrow; have HV1 : Hid (OwnS w1 w.heap.size v1 a) := ownS_of (a := []) hown'; have HB1 := Lib.hid (((Below.refl w.heap.size w).alloc (Nat.le_refl _) (.cells #[] 74)).trans (below_ownS HL0.out hgrow (by simp))); obtain ⟨A1, c1, rfl, hs1, hl1, hc1⟩ := HV1.out.sls; have HS1 := Lib.hid (And.intro hs1 (And.intro hl1 hc1)); have HL1 := Lib.hid (ownS_zero w1 w1.heap.size (Nat.le_refl _)); have HNW2 : Hid (∀ ad, A' = some ad → ∀ j u, (b.flatMap cellsS)[j]? = some u → (w1.alloc (.cells #[] 74)).cell? (ad.add j) = some u) := (fun ad h j u hu => (HG.out.2.next (HB1.out.alloc HB1.out.size (.cells #[] 74))).news ad h j u hu); clear tok1 hown' hgrow hs1 hl1 hc1) | (at_builtin; refine wpList_append_any rfl _ _ 28 rfl w1.heap.size 74 i0 (.agg #[.int .i64 0, .int .i64 0]) 2 16 Try.underlying28 hi hz0 hz1 hz2 rfl (by decide) _ _ _ rfl HL1.out A' b.length c' (b.flatMap cellsS) rfl (flatS_len b) HNB.out HNW2.out (cellsS_all b) (by simp; omega) (by simp; omega) (by simp) ?_; intro v2 w2 hown' hgrow; have HV2 : Hid (OwnS w2 w1.heap.size v2 b) := ownS_of (a := []) hown'; have HR2 : Hid (Below w1.heap.size w1 w2) := (((Below.refl w1.heap.size w1).alloc (Nat.le_refl _) (.cells #[] 74)).trans (below_ownS HL1.out hgrow (by simp))); obtain ⟨A2, c2, rfl, hs2, hl2, hc2⟩ := HV2.out.sls; have HS2 := Lib.hid (And.intro hs2 (And.intro hl2 hc2)); clear hown' hgrow hs2 hl2 hc2))
  have HB : Hid (Below w.heap.size w w2) := HB1.out.trans (HR2.out.mono HB1.out.size)
  have HX : Hid (Al w2 [(A1, a), (A2, b), (A, a), (A', b)]) := by
    refine Al.cons (Al.cons (Al.cons (Al.cons (fun p hp => by cases hp) (HG.out.2.next HB.out)) (HG.out.1.next HB.out)) HS2.out.1) ?_
    exact (show Sl w1 A1 a from HS1.out.1).next HR2.out
  have HC := Lib.hid (And.intro HS1.out.2 HS2.out.2)
  clear HV1 HB1 HS1 HL1 HNW2 HV2 HR2 HS2 HL0 HNW1 HG
  refine (make_is A1 c1 a _ (HX.out (A1, a) (by simp)) (by omega)).mono ?_
  rintro e w3 ⟨M1, mc1, rfl, hsl, hb⟩
  have HX0 : Hid (Al w3 _) := Lib.hid ((HX.out.next hb).cons (show Sl w3 M1 (makeL a) from hsl))
  have HB0 : Hid (Below w.heap.size w w3) := HB.out.trans (hb.mono HB.out.size)
  clear HX HB
  have HX := HX0
  have HB := HB0
  clear HX0 HB0
  clear hsl hb
  go_wp2_with fail
  refine (refMake_any A c a _ (HX.out (A, a) (by simp)) HNA.out (by omega)).mono ?_
  rintro e w4 ⟨v, rfl, ho, hb⟩
  obtain ⟨M2, m2c, rfl, hsl, _, _⟩ := ho.sls
  have HX0 : Hid (Al w4 _) := Lib.hid ((HX.out.next hb).cons (show Sl w4 M2 (makeL a) from hsl))
  have HB0 : Hid (Below w.heap.size w w4) := HB.out.trans (hb.mono HB.out.size)
  clear HX HB
  have HX := HX0
  have HB := HB0
  clear HX0 HB0
  clear hsl hb ho
  go_wp2_with fail
  refine (spanOr_any A1 A2 c1 c2 a b _ (HX.out (A1, a) (by simp)) (HX.out (A2, b) (by simp)) HC.out.1.1 HC.out.1.2 HC.out.2.1 HC.out.2.2 (by omega) HK.out.1 HK.out.2).mono ?_
  rintro e w5 he
  obtain ⟨O1, o1c, rfl, hsl, hb⟩ := chEnd_two (g := orF) he rfl (fun x y => wantsOr_is x y) HK.out.1 HK.out.2
  have HX0 : Hid (Al w5 _) := Lib.hid ((HX.out.next hb).cons (show Sl w5 O1 (twoL orF a b) from hsl))
  have HB0 : Hid (Below w.heap.size w w5) := HB.out.trans (hb.mono HB.out.size)
  clear HX HB
  have HX := HX0
  have HB := HB0
  clear HX0 HB0
  clear hsl hb he
  go_wp2_with fail
  refine (twoOr_any A A' c c' a b _ (HX.out (A, a) (by simp)) (HX.out (A', b) (by simp)) HNA.out HNB.out (by omega) (by omega)).mono ?_
  rintro e w6 ⟨v, rfl, ho, hb⟩
  obtain ⟨O2, o2c, rfl, hsl, _, _⟩ := ho.sls
  have HX0 : Hid (Al w6 _) := Lib.hid ((HX.out.next hb).cons (show Sl w6 O2 (twoL orF a b) from hsl))
  have HB0 : Hid (Below w.heap.size w w6) := HB.out.trans (hb.mono HB.out.size)
  clear HX HB
  have HX := HX0
  have HB := HB0
  clear HX0 HB0
  clear hsl hb ho
  go_wp2_with fail
  refine (spanAnd_any A1 A2 c1 c2 a b _ (HX.out (A1, a) (by simp)) (HX.out (A2, b) (by simp)) HC.out.1.1 HC.out.1.2 HC.out.2.1 HC.out.2.2 (by omega) HK.out.1 HK.out.2).mono ?_
  rintro e w7 he
  obtain ⟨Q1, q1c, rfl, hsl, hb⟩ := chEnd_two (g := andF) he rfl (fun x y => wantsAnd_is x y) HK.out.1 HK.out.2
  have HX0 : Hid (Al w7 _) := Lib.hid ((HX.out.next hb).cons (show Sl w7 Q1 (twoL andF a b) from hsl))
  have HB0 : Hid (Below w.heap.size w w7) := HB.out.trans (hb.mono HB.out.size)
  clear HX HB
  have HX := HX0
  have HB := HB0
  clear HX0 HB0
  clear hsl hb he
  go_wp2_with fail
  refine (twoAnd_any A A' c c' a b _ (HX.out (A, a) (by simp)) (HX.out (A', b) (by simp)) HNA.out HNB.out (by omega) (by omega)).mono ?_
  rintro e w8 ⟨v, rfl, ho, hb⟩
  obtain ⟨Q2, q2c, rfl, hsl, _, _⟩ := ho.sls
  have HX0 : Hid (Al w8 _) := Lib.hid ((HX.out.next hb).cons (show Sl w8 Q2 (twoL andF a b) from hsl))
  have HB0 : Hid (Below w.heap.size w w8) := HB.out.trans (hb.mono HB.out.size)
  clear HX HB
  have HX := HX0
  have HB := HB0
  clear HX0 HB0
  clear hsl hb ho
  go_wp2_with fail
  refine (spanMinus_any A1 A2 c1 c2 a b _ (HX.out (A1, a) (by simp)) (HX.out (A2, b) (by simp)) HC.out.1.1 HC.out.1.2 HC.out.2.1 HC.out.2.2 (by omega) HK.out.1 HK.out.2).mono ?_
  rintro e w9 he
  obtain ⟨S1, s1c, rfl, hsl, hb⟩ := chEnd_two (g := notF) he rfl (fun x y => wantsMinus_is x y) HK.out.1 HK.out.2
  have HX0 : Hid (Al w9 _) := Lib.hid ((HX.out.next hb).cons (show Sl w9 S1 (twoL notF a b) from hsl))
  have HB0 : Hid (Below w.heap.size w w9) := HB.out.trans (hb.mono HB.out.size)
  clear HX HB
  have HX := HX0
  have HB := HB0
  clear HX0 HB0
  clear hsl hb he
  go_wp2_with fail
  refine (twoNot_any A A' c c' a b _ (HX.out (A, a) (by simp)) (HX.out (A', b) (by simp)) HNA.out HNB.out (by omega) (by omega)).mono ?_
  rintro e w10 ⟨v, rfl, ho, hb⟩
  obtain ⟨S2, s2c, rfl, hsl, _, _⟩ := ho.sls
  have HX0 : Hid (Al w10 _) := Lib.hid ((HX.out.next hb).cons (show Sl w10 S2 (twoL notF a b) from hsl))
  have HB0 : Hid (Below w.heap.size w w10) := HB.out.trans (hb.mono HB.out.size)
  clear HX HB
  have HX := HX0
  have HB := HB0
  clear HX0 HB0
  clear hsl hb ho
  go_wp2_with fail
  obtain ⟨is, his⟩ : ∃ x, setB a = x := ⟨_, rfl⟩
  have HIS := Lib.hid his
  clear his
  refine (rSet_is A c a _ is HIS.out (HX.out (A, a) (by simp)) (by omega)).mono ?_
  rintro e w11 ⟨rfl, n11, hw11⟩
  have hb : Below w10.heap.size w10 w11 := by rw [hw11]; exact below_ind (Below.refl _ _) _
  have HX0 : Hid (Al w11 _) := Lib.hid (HX.out.next hb)
  have HB0 : Hid (Below w.heap.size w w11) := HB.out.trans (hb.mono HB.out.size)
  clear HX HB
  have HX := HX0
  have HB := HB0
  clear HX0 HB0
  clear hb hw11
  go_wp2_with fail
  refine (sameS_any M1 M2 _ _ (makeL a) _ _ (HX.out (M1, makeL a) (by simp)) (HX.out (M2, makeL a) (by simp)) (by have := HLEN.out.1; omega)).mono ?_
  rintro e w12 ⟨rfl, n12, hw12⟩
  have hb : Below w11.heap.size w11 w12 := by rw [hw12]; exact below_ind (Below.refl _ _) _
  have HX0 : Hid (Al w12 _) := Lib.hid (HX.out.next hb)
  have HB0 : Hid (Below w.heap.size w w12) := HB.out.trans (hb.mono HB.out.size)
  clear HX HB
  have HX := HX0
  have HB := HB0
  clear HX0 HB0
  clear hb hw12
  go_wp2_with fail
  refine (sameS_any O1 O2 _ _ (twoL orF a b) _ _ (HX.out (O1, twoL orF a b) (by simp)) (HX.out (O2, twoL orF a b) (by simp)) (by have := HLEN.out.2.1; omega)).mono ?_
  rintro e w13 ⟨rfl, n13, hw13⟩
  have hb : Below w12.heap.size w12 w13 := by rw [hw13]; exact below_ind (Below.refl _ _) _
  have HX0 : Hid (Al w13 _) := Lib.hid (HX.out.next hb)
  have HB0 : Hid (Below w.heap.size w w13) := HB.out.trans (hb.mono HB.out.size)
  clear HX HB
  have HX := HX0
  have HB := HB0
  clear HX0 HB0
  clear hb hw13
  go_wp2_with fail
  refine (sameS_any Q1 Q2 _ _ (twoL andF a b) _ _ (HX.out (Q1, twoL andF a b) (by simp)) (HX.out (Q2, twoL andF a b) (by simp)) (by have := HLEN.out.2.2.1; omega)).mono ?_
  rintro e w14 ⟨rfl, n14, hw14⟩
  have hb : Below w13.heap.size w13 w14 := by rw [hw14]; exact below_ind (Below.refl _ _) _
  have HX0 : Hid (Al w14 _) := Lib.hid (HX.out.next hb)
  have HB0 : Hid (Below w.heap.size w w14) := HB.out.trans (hb.mono HB.out.size)
  clear HX HB
  have HX := HX0
  have HB := HB0
  clear HX0 HB0
  clear hb hw14
  go_wp2_with fail
  refine (sameS_any S1 S2 _ _ (twoL notF a b) _ _ (HX.out (S1, twoL notF a b) (by simp)) (HX.out (S2, twoL notF a b) (by simp)) (by have := HLEN.out.2.2.2; omega)).mono ?_
  rintro e w15 ⟨rfl, n15, hw15⟩
  have hb : Below w14.heap.size w14 w15 := by rw [hw15]; exact below_ind (Below.refl _ _) _
  have HX0 : Hid (Al w15 _) := Lib.hid (HX.out.next hb)
  have HB0 : Hid (Below w.heap.size w w15) := HB.out.trans (hb.mono HB.out.size)
  clear HX HB
  have HX := HX0
  have HB := HB0
  clear HX0 HB0
  clear hb hw15
  go_wp2_with fail
  obtain ⟨cv, hcv⟩ : ∃ x, covB a b = x := ⟨_, rfl⟩
  have HCV := Lib.hid hcv
  obtain ⟨xi, hxi⟩ : ∃ x, innB a t = x := ⟨_, rfl⟩
  have HXI := Lib.hid hxi
  clear hcv hxi
  cases is
  · refine (check_is A1 c1 a _ false HIS.out (HX.out (A1, a) (by simp)) (by omega)).mono ?_
    rintro e w16 ⟨rfl, hb⟩
    have HX0 : Hid (Al w16 _) := Lib.hid (HX.out.next hb)
    have HB0 : Hid (Below w.heap.size w w16) := HB.out.trans (hb.mono HB.out.size)
    clear HX HB
    have HX := HX0
    have HB := HB0
    clear HX0 HB0
    clear hb
    go_wp2_with fail
    refine (has_is A1 c1 a t _ false (by rw [HIS.out]; rfl) (HX.out (A1, a) (by simp)) (by omega)).mono ?_
    rintro e w17 ⟨rfl, hb⟩
    have HX0 : Hid (Al w17 _) := Lib.hid (HX.out.next hb)
    have HB0 : Hid (Below w.heap.size w w17) := HB.out.trans (hb.mono HB.out.size)
    clear HX HB
    have HX := HX0
    have HB := HB0
    clear HX0 HB0
    clear hb
    go_wp2_with fail
    refine (cov_is A1 A2 c1 c2 a b _ cv HCV.out (HX.out (A1, a) (by simp)) (HX.out (A2, b) (by simp)) HC.out.1.1 HC.out.1.2 HC.out.2.1 HC.out.2.2 (by omega) HK.out.1 HK.out.2).mono ?_
    rintro e w18 ⟨rfl, hb⟩
    have HX0 : Hid (Al w18 _) := Lib.hid (HX.out.next hb)
    have HB0 : Hid (Below w.heap.size w w18) := HB.out.trans (hb.mono HB.out.size)
    clear HX HB
    have HX := HX0
    have HB := HB0
    clear HX0 HB0
    clear hb
    go_wp2_with fail
    refine (rCov_is A A' c c' a b _ cv HCV.out (HX.out (A, a) (by simp)) (HX.out (A', b) (by simp)) HNA.out HNB.out (by omega) (by omega)).mono ?_
    rintro e w19 ⟨rfl, hb⟩
    have HX0 : Hid (Al w19 _) := Lib.hid (HX.out.next hb)
    have HB0 : Hid (Below w.heap.size w w19) := HB.out.trans (hb.mono HB.out.size)
    clear HX HB
    have HX := HX0
    have HB := HB0
    clear HX0 HB0
    clear hb
    go_wp2_with fail
    refine (sameS_any A1 A c1 c a _ _ (HX.out (A1, a) (by simp)) (HX.out (A, a) (by simp)) (by omega)).mono ?_
    rintro e w20 ⟨rfl, n20, hw20⟩
    have hb : Below w19.heap.size w19 w20 := by rw [hw20]; exact below_ind (Below.refl _ _) _
    have HX0 : Hid (Al w20 _) := Lib.hid (HX.out.next hb)
    have HB0 : Hid (Below w.heap.size w w20) := HB.out.trans (hb.mono HB.out.size)
    clear HX HB
    have HX := HX0
    have HB := HB0
    clear HX0 HB0
    clear hb hw20
    go_wp2_with fail
    refine (sameS_any A2 A' c2 c' b _ _ (HX.out (A2, b) (by simp)) (HX.out (A', b) (by simp)) (by omega)).mono ?_
    rintro e w21 ⟨rfl, n21, hw21⟩
    have hb : Below w20.heap.size w20 w21 := by rw [hw21]; exact below_ind (Below.refl _ _) _
    have HX0 : Hid (Al w21 _) := Lib.hid (HX.out.next hb)
    have HB0 : Hid (Below w.heap.size w w21) := HB.out.trans (hb.mono HB.out.size)
    clear HX HB
    have HX := HX0
    have HB := HB0
    clear HX0 HB0
    clear hb hw21
    go_wp2_with fail
    go_ret
    exact ⟨rfl, HB.out⟩
  cases xi
  · refine (check_is A1 c1 a _ true HIS.out (HX.out (A1, a) (by simp)) (by omega)).mono ?_
    rintro e w16 ⟨rfl, hb⟩
    have HX0 : Hid (Al w16 _) := Lib.hid (HX.out.next hb)
    have HB0 : Hid (Below w.heap.size w w16) := HB.out.trans (hb.mono HB.out.size)
    clear HX HB
    have HX := HX0
    have HB := HB0
    clear HX0 HB0
    clear hb
    go_wp2_with fail
    refine (has_is A1 c1 a t _ false (by rw [HIS.out, HXI.out]; rfl) (HX.out (A1, a) (by simp)) (by omega)).mono ?_
    rintro e w17 ⟨rfl, hb⟩
    have HX0 : Hid (Al w17 _) := Lib.hid (HX.out.next hb)
    have HB0 : Hid (Below w.heap.size w w17) := HB.out.trans (hb.mono HB.out.size)
    clear HX HB
    have HX := HX0
    have HB := HB0
    clear HX0 HB0
    clear hb
    go_wp2_with fail
    refine (rIn_is A c a t _ false HXI.out (HX.out (A, a) (by simp)) (by omega)).mono ?_
    rintro e w18 ⟨rfl, n18, hw18⟩
    have hb : Below w17.heap.size w17 w18 := by rw [hw18]; exact below_ind (Below.refl _ _) _
    have HX0 : Hid (Al w18 _) := Lib.hid (HX.out.next hb)
    have HB0 : Hid (Below w.heap.size w w18) := HB.out.trans (hb.mono HB.out.size)
    clear HX HB
    have HX := HX0
    have HB := HB0
    clear HX0 HB0
    clear hb hw18
    go_wp2_with fail
    refine (cov_is A1 A2 c1 c2 a b _ cv HCV.out (HX.out (A1, a) (by simp)) (HX.out (A2, b) (by simp)) HC.out.1.1 HC.out.1.2 HC.out.2.1 HC.out.2.2 (by omega) HK.out.1 HK.out.2).mono ?_
    rintro e w19 ⟨rfl, hb⟩
    have HX0 : Hid (Al w19 _) := Lib.hid (HX.out.next hb)
    have HB0 : Hid (Below w.heap.size w w19) := HB.out.trans (hb.mono HB.out.size)
    clear HX HB
    have HX := HX0
    have HB := HB0
    clear HX0 HB0
    clear hb
    go_wp2_with fail
    refine (rCov_is A A' c c' a b _ cv HCV.out (HX.out (A, a) (by simp)) (HX.out (A', b) (by simp)) HNA.out HNB.out (by omega) (by omega)).mono ?_
    rintro e w20 ⟨rfl, hb⟩
    have HX0 : Hid (Al w20 _) := Lib.hid (HX.out.next hb)
    have HB0 : Hid (Below w.heap.size w w20) := HB.out.trans (hb.mono HB.out.size)
    clear HX HB
    have HX := HX0
    have HB := HB0
    clear HX0 HB0
    clear hb
    go_wp2_with fail
    refine (sameS_any A1 A c1 c a _ _ (HX.out (A1, a) (by simp)) (HX.out (A, a) (by simp)) (by omega)).mono ?_
    rintro e w21 ⟨rfl, n21, hw21⟩
    have hb : Below w20.heap.size w20 w21 := by rw [hw21]; exact below_ind (Below.refl _ _) _
    have HX0 : Hid (Al w21 _) := Lib.hid (HX.out.next hb)
    have HB0 : Hid (Below w.heap.size w w21) := HB.out.trans (hb.mono HB.out.size)
    clear HX HB
    have HX := HX0
    have HB := HB0
    clear HX0 HB0
    clear hb hw21
    go_wp2_with fail
    refine (sameS_any A2 A' c2 c' b _ _ (HX.out (A2, b) (by simp)) (HX.out (A', b) (by simp)) (by omega)).mono ?_
    rintro e w22 ⟨rfl, n22, hw22⟩
    have hb : Below w21.heap.size w21 w22 := by rw [hw22]; exact below_ind (Below.refl _ _) _
    have HX0 : Hid (Al w22 _) := Lib.hid (HX.out.next hb)
    have HB0 : Hid (Below w.heap.size w w22) := HB.out.trans (hb.mono HB.out.size)
    clear HX HB
    have HX := HX0
    have HB := HB0
    clear HX0 HB0
    clear hb hw22
    go_wp2_with fail
    go_ret
    exact ⟨rfl, HB.out⟩
  · refine (check_is A1 c1 a _ true HIS.out (HX.out (A1, a) (by simp)) (by omega)).mono ?_
    rintro e w16 ⟨rfl, hb⟩
    have HX0 : Hid (Al w16 _) := Lib.hid (HX.out.next hb)
    have HB0 : Hid (Below w.heap.size w w16) := HB.out.trans (hb.mono HB.out.size)
    clear HX HB
    have HX := HX0
    have HB := HB0
    clear HX0 HB0
    clear hb
    go_wp2_with fail
    refine (has_is A1 c1 a t _ true (by rw [HIS.out, HXI.out]; rfl) (HX.out (A1, a) (by simp)) (by omega)).mono ?_
    rintro e w17 ⟨rfl, hb⟩
    have HX0 : Hid (Al w17 _) := Lib.hid (HX.out.next hb)
    have HB0 : Hid (Below w.heap.size w w17) := HB.out.trans (hb.mono HB.out.size)
    clear HX HB
    have HX := HX0
    have HB := HB0
    clear HX0 HB0
    clear hb
    go_wp2_with fail
    refine (rIn_is A c a t _ true HXI.out (HX.out (A, a) (by simp)) (by omega)).mono ?_
    rintro e w18 ⟨rfl, n18, hw18⟩
    have hb : Below w17.heap.size w17 w18 := by rw [hw18]; exact below_ind (Below.refl _ _) _
    have HX0 : Hid (Al w18 _) := Lib.hid (HX.out.next hb)
    have HB0 : Hid (Below w.heap.size w w18) := HB.out.trans (hb.mono HB.out.size)
    clear HX HB
    have HX := HX0
    have HB := HB0
    clear HX0 HB0
    clear hb hw18
    go_wp2_with fail
    refine (cov_is A1 A2 c1 c2 a b _ cv HCV.out (HX.out (A1, a) (by simp)) (HX.out (A2, b) (by simp)) HC.out.1.1 HC.out.1.2 HC.out.2.1 HC.out.2.2 (by omega) HK.out.1 HK.out.2).mono ?_
    rintro e w19 ⟨rfl, hb⟩
    have HX0 : Hid (Al w19 _) := Lib.hid (HX.out.next hb)
    have HB0 : Hid (Below w.heap.size w w19) := HB.out.trans (hb.mono HB.out.size)
    clear HX HB
    have HX := HX0
    have HB := HB0
    clear HX0 HB0
    clear hb
    go_wp2_with fail
    refine (rCov_is A A' c c' a b _ cv HCV.out (HX.out (A, a) (by simp)) (HX.out (A', b) (by simp)) HNA.out HNB.out (by omega) (by omega)).mono ?_
    rintro e w20 ⟨rfl, hb⟩
    have HX0 : Hid (Al w20 _) := Lib.hid (HX.out.next hb)
    have HB0 : Hid (Below w.heap.size w w20) := HB.out.trans (hb.mono HB.out.size)
    clear HX HB
    have HX := HX0
    have HB := HB0
    clear HX0 HB0
    clear hb
    go_wp2_with fail
    refine (sameS_any A1 A c1 c a _ _ (HX.out (A1, a) (by simp)) (HX.out (A, a) (by simp)) (by omega)).mono ?_
    rintro e w21 ⟨rfl, n21, hw21⟩
    have hb : Below w20.heap.size w20 w21 := by rw [hw21]; exact below_ind (Below.refl _ _) _
    have HX0 : Hid (Al w21 _) := Lib.hid (HX.out.next hb)
    have HB0 : Hid (Below w.heap.size w w21) := HB.out.trans (hb.mono HB.out.size)
    clear HX HB
    have HX := HX0
    have HB := HB0
    clear HX0 HB0
    clear hb hw21
    go_wp2_with fail
    refine (sameS_any A2 A' c2 c' b _ _ (HX.out (A2, b) (by simp)) (HX.out (A', b) (by simp)) (by omega)).mono ?_
    rintro e w22 ⟨rfl, n22, hw22⟩
    have hb : Below w21.heap.size w21 w22 := by rw [hw22]; exact below_ind (Below.refl _ _) _
    have HX0 : Hid (Al w22 _) := Lib.hid (HX.out.next hb)
    have HB0 : Hid (Below w.heap.size w w22) := HB.out.trans (hb.mono HB.out.size)
    clear HX HB
    have HX := HX0
    have HB := HB0
    clear HX0 HB0
    clear hb hw22
    go_wp2_with fail
    go_ret
    exact ⟨rfl, HB.out⟩
end Go.Proofs.Ytefekkcmoambhaa
