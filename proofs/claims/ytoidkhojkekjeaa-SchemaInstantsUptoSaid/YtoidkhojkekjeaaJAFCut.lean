import Derived.BigQuiet
import Derived.Test.YtoidkhojkekjeaaJFMay
import Derived.Test.YtoidkhojkekjeaaJABp
import Derived.Test.YtoidkhojkekjeaaJOArgs
import Derived.Test.YtoidkhojkekjeaaJAMayE
/-
  CONTRACT: the document's Great of facts answers 0 or 1, however much there is (its sum may wrap).
-/
namespace Go.Proofs.Ytoidkhojkekjeaa
open Go.RowKit Go.Shelf

set_option maxRecDepth 100000 in
set_option maxHeartbeats 2000000 in
theorem greatF_any (A : Option Addr) (c : Nat) (l : List FactP) (w : World) (hs : FVa w (.slice A l.length c) l) (hl : l.length ≤ 1954687338268) :
    Calls Try.prog 7 #[.slice A l.length c] w fun e w' => (e = .returned (.int .i64 0) ∨ e = .returned (.int .i64 1)) ∧ Below w.heap.size w w' := by
  have HS := Lib.hid hs
  clear hs
  go_enter Try.func7, Try.ntmps7
  go_wp2
  go_loopg [3, 4] l.length (fun g x y wr => ∃ (j q : Nat) (n : Int), x = .int .i64 n ∧ y = .int .i64 j ∧ j + g = l.length ∧ wr = w.drewN q)
  case atStart => exact ⟨0, 0, 0, rfl, rfl, by omega, rfl⟩
  case round =>
    obtain ⟨j, q, n, rfl, rfl, hj, rfl⟩ := hrel
    cases gk with
    | succ g =>
      have hji : (j : Int) < (l.length : Int) := by omega
      have hjn : j < l.length := by omega
      obtain ⟨b, o, sv, rfl, _, hc, hsv⟩ := fva_at HS.out hjn
      obtain ⟨As, cs, rfl, _⟩ := hsv
      obtain ⟨f, hf⟩ : ∃ f, l[j] = f := ⟨_, rfl⟩
      rw [hf] at hc
      have c4 := hc.2.2.2.2.1
      have c5 := hc.2.2.2.2.2
      clear hc hf
      go_wp2
      go_big_quiet (fail)
      go_wp2
      go_roundg g
      case measure => omega
      case rel => exact ⟨j + 1, _, _, rfl, by go_num, by omega, rfl⟩
    | zero =>
      have hji : ¬ (j : Int) < (l.length : Int) := by omega
      have HB : Hid (Below w.heap.size w (w.drewN q)) := below_ind (Below.refl _ w) q
      by_cases hn : 3000 < n
      · go_wp2
        go_ret
        exact ⟨.inr rfl, HB.out⟩
      · go_wp2
        go_ret
        exact ⟨.inl rfl, HB.out⟩
end Go.Proofs.Ytoidkhojkekjeaa

/-
  THE LAW SchemaMakes, given the contracts of the program's Of and of the document's Made.
-/
namespace Go.Proofs.Ytoidkhojkekjeaa
open Go.RowKit Go.Shelf

theorem eqAtt (a : Att) (w : World) : (binOp .eql 33 (attV a) (attV a)).run Try.prog w = .ok (.bool true) w := by
  have u3 := Try.underlying3
  have u2 := Try.underlying2
  have u9 := Try.underlying9
  have u4 := Try.underlying4
  have a3 := Try.isAgg3
  have a2 := Try.isAgg2
  have a9 := Try.isAgg9
  have a4 := Try.isAgg4
  have hS : Try.prog.underlying 33 = some (.struct (Try.prog.fieldsOf 33)) := by kernel_rfl
  have hp : Try.prog.stoodInHeld 33 = false := by kernel_rfl
  unfold attV
  rw [run_eql_struct, show (10000 : Nat) = 9999 + 1 from rfl, run_equalIn_agg w 9999 33 _ _ hS hp]
  simp only [Program.fieldsOf, Try.underlying33]
  go_simp
/-- the attributes that Of gives -/
def resL (fs : List FactP) : List Att := if attsE fs = 0 then attsL fs else []
/-- what either Of gives -/
def OfR (w : World) (fs : List FactP) : Ending → World → Prop := fun r w' => (∃ A c, r = .returned (.tuple #[.slice A (resL fs).length c, .int .i64 (attsE fs)]) ∧ SlA w' w'.heap.size A (resL fs)) ∧ Below w.heap.size w w'
theorem resL_len (fs : List FactP) : (resL fs).length ≤ 7 + fs.length := by
  unfold resL
  split
  · unfold attsL
    rw [List.length_append]
    have := docFrom_len fs fs none
    simp only [builtL, List.length_cons, List.length_nil]
    omega
  · exact Nat.zero_le _
theorem ofEnd_r {W : World} {B : Nat} {fs : List FactP} {v : Value} {ec : Int} (h : OfEnd W B fs v ec) : ec = attsE fs ∧ ∃ A c, v = .slice A (resL fs).length c ∧ SlA W W.heap.size A (resL fs) := by
  refine ⟨h.1, ?_⟩
  have h2 := h.2
  unfold resL
  split
  · rename_i h0
    rw [if_pos h0] at h2
    obtain ⟨A, c, e, hs, _⟩ := h2.form
    exact ⟨A, c, e, hs⟩
  · rename_i h0
    rw [if_neg h0] at h2
    exact ⟨none, 0, h2, fun hl => absurd rfl hl⟩
theorem fva_spans {W : World} {A : Option Addr} {c : Nat} {fs : List FactP} (h : FVa W (.slice A fs.length c) fs) {f : FactP} (hf : f ∈ fs) : f.l.length ≤ 9223372036854775807 := by
  obtain ⟨j, hj, rfl⟩ := List.mem_iff_getElem.1 hf
  obtain ⟨_, _, _, _, _, _, A2, c2, _, _, h1, h2⟩ := fva_at h hj
  have : maxLen = 9223372036854775807 := rfl
  omega
/-- what the law asks of its facts -/
structure MkA (w : World) (A : Option Addr) (c : Nat) (fs : List FactP) : Prop where
  f : FVa w (.slice A fs.length c) fs
  u : fs.length ≤ 1954687338268
  z : ∀ f ∈ fs, f.s.size ≤ maxLen
set_option maxRecDepth 100000 in
set_option maxHeartbeats 4000000 in
theorem makes_if (hMade : ∀ (A : Option Addr) (c : Nat) (fs : List FactP) (e : Int) (w : World), FVa w (.slice A fs.length c) fs → fs.length ≤ 1954687338268 → Calls Try.prog 29 #[.slice A fs.length c, .int .i64 e] w fun r w' => r = .returned (fndV (docL e fs)) ∧ Below w.heap.size w w')
    (hOf : ∀ (A : Option Addr) (c : Nat) (fs : List FactP) (w : World), FVa w (.slice A fs.length c) fs → fs.length ≤ 1954687338268 → (∀ f ∈ fs, f.s.size ≤ maxLen ∧ f.l.length ≤ 9223372036854775807) → Calls Try.prog 8 #[.slice A fs.length c] w (OfR w fs))
    (A : Option Addr) (c : Nat) (fs : List FactP) (s : ByteArray) (id : Int) (w : World) (H : MkA w A c fs) :
    Calls Try.prog 3 #[.slice A fs.length c, .string s, .int .i64 id] w fun e w' => e = .returned (.bool true) ∧ Below w.heap.size w w' := by
  have HG1 := Lib.hid (greatF_any A c fs w H.f H.u)
  have HA := Lib.hid H
  have HMD := Lib.hid hMade
  have HOF := Lib.hid hOf
  clear H hMade hOf
  go_enter Try.func3, Try.ntmps3
  go_wp2_with fail
  refine HG1.out.mono ?_
  rintro e9 w1 ⟨rfl | rfl, hb1⟩
  rotate_left
  · have HB1 := Lib.hid hb1
    clear hb1 HG1
    go_wp2
    go_ret
    exact ⟨rfl, HB1.out⟩
  · have HB1 := Lib.hid hb1
    have hl1 := HA.out.u
    have HL1 := Lib.hid hl1
    have HZ : Hid (∀ f ∈ fs, f.s.size ≤ maxLen ∧ f.l.length ≤ 9223372036854775807) := fun f hf => ⟨HA.out.z f hf, fva_spans HA.out.f hf⟩
    have HLR : Hid ((resL fs).length ≤ 2000000000000) := by have := resL_len fs; show _ ≤ _; omega
    clear hb1 HG1
    by_cases hs0 : s.size ≤ 1000
    rotate_left
    · have hsz : decide ((1000 : Int) < (s.size : Int)) = true := decide_eq_true (by omega)
      have hsy : (1000 : Int) < (s.size : Int) := by omega
      have hsx : decide (1000 < s.size) = true := decide_eq_true (by omega)
      clear hl1
      go_wp2
      go_ret
      exact ⟨rfl, HB1.out⟩
    · have hsz : decide ((1000 : Int) < (s.size : Int)) = false := decide_eq_false (by omega)
      have hsy : ¬ (1000 : Int) < (s.size : Int) := by omega
      have hsx : decide (1000 < s.size) = false := decide_eq_false (by omega)
      have HO1 := Lib.hid (HOF.out A c fs w1 (HA.out.f.next HB1.out) HL1.out HZ.out)
      clear hl1
      go_wp2_with fail
      refine HO1.out.mono ?_
      rintro e9 w2 ⟨⟨A2, c2, rfl, hs2⟩, hb2⟩
      have HB2 := Lib.hid (HB1.out.trans (hb2.mono HB1.out.size))
      have HS2 := Lib.hid hs2
      clear hb2 hs2 HO1 hsz hsy hsx hs0
      have HO2 := Lib.hid (refOf_if HMD.out A c fs w2 (HA.out.f.next HB2.out) HL1.out HZ.out)
      go_wp2_with fail
      refine HO2.out.mono ?_
      rintro e9 w3 ⟨⟨v3, ec3, rfl, he3⟩, hb3⟩
      obtain ⟨rfl, A3, c3, rfl, hs3⟩ := ofEnd_r he3
      have HB3 := Lib.hid (HB2.out.trans (hb3.mono HB2.out.size))
      have HS3 := Lib.hid hs3
      have HS23 := Lib.hid ((HS2.out.next hb3 (Nat.le_refl _)).more hb3.size)
      clear hb3 hs3 HO2 he3
      have HSM := Lib.hid (sameAt_any A2 A3 c2 c3 (resL fs) w3 w3.heap.size HS23.out HS3.out HLR.out)
      go_wp2_with fail
      refine HSM.out.mono ?_
      rintro e9 w4 ⟨rfl, q4, rfl⟩
      have HB4 : Hid (Below w.heap.size w (w3.drewN q4)) := below_ind HB3.out q4
      clear HSM
      go_wp2_with fail
      refine (built_any _).mono ?_
      rintro e9 w5 ⟨A5, c5, rfl, hs5, hb5⟩
      have HB5 := Lib.hid (HB4.out.trans (hb5.mono HB4.out.size))
      have HS5 := Lib.hid hs5
      have HBA5 : Hid (Below w3.heap.size w3 w5) := (below_ind (Below.refl w3.heap.size w3) q4).trans (hb5.mono (Nat.le_refl _))
      clear hb5 hs5
      go_wp2_with fail
      refine (refBuilt_any w5).mono ?_
      rintro e9 w6 ⟨v6, rfl, ho6, hb6⟩
      obtain ⟨A6, c6, rfl, hs6, _⟩ := ho6.form
      have HB6 := Lib.hid (HB5.out.trans (hb6.mono HB5.out.size))
      have HBA6 := Lib.hid (HBA5.out.trans (hb6.mono HBA5.out.size))
      have HS6 := Lib.hid hs6
      have HS56 := Lib.hid ((HS5.out.next hb6 (Nat.le_refl _)).more hb6.size)
      clear hb6 hs6 ho6
      have HSM := Lib.hid (sameAt_any A5 A6 c5 c6 builtL w6 w6.heap.size HS56.out HS6.out (by decide))
      go_wp2_with fail
      refine HSM.out.mono ?_
      rintro e9 w7 ⟨rfl, q7, rfl⟩
      have HB7 : Hid (Below w.heap.size w (w6.drewN q7)) := below_ind HB6.out q7
      have HBA7 : Hid (Below w3.heap.size w3 (w6.drewN q7)) := below_ind HBA6.out q7
      clear HSM HS5 HS6 HS56
      obtain ⟨x, hx⟩ : ∃ x, (resL fs).find? (nmP s) = x := ⟨_, rfl⟩
      obtain ⟨y, hy⟩ : ∃ y, (resL fs).find? (idP id) = y := ⟨_, rfl⟩
      obtain ⟨x1, hx1⟩ : ∃ x1, x.getD zA = x1 := ⟨_, rfl⟩
      obtain ⟨y1, hy1⟩ : ∃ y1, y.getD zA = y1 := ⟨_, rfl⟩
      have HXV : Hid (fndV x = .tuple #[attV x1, .bool x.isSome]) := by show _ = _; unfold fndV; rw [hx1]
      have HYV : Hid (fndV y = .tuple #[attV y1, .bool y.isSome]) := by show _ = _; unfold fndV; rw [hy1]
      clear hx1 hy1
      obtain ⟨w70, hw70⟩ : ∃ w70, w6.drewN q7 = w70 := ⟨_, rfl⟩
      rw [hw70] at HB7 HBA7 ⊢
      clear hw70
      have HX := Lib.hid hx
      have HY := Lib.hid hy
      clear hx hy
      have HC1 := Lib.hid (byName_any A2 c2 (resL fs) s w70 ((HS23.out.next HBA7.out (Nat.le_refl _)).more HBA7.out.size) HLR.out)
      go_wp2_with fail
      refine HC1.out.mono ?_
      rintro e9 w81 ⟨rfl, hb⟩
      rw [HX.out, HXV.out]
      simp only [attV]
      have hal := (Below.refl w81.heap.size w81).alloc (Nat.le_refl _) (.cells #[.int .i64 x1.id, .string x1.nm, .int .i64 x1.ty, .bool x1.many, .int .i64 x1.un, .bool x1.part, .bool x1.ix] 33)
      have HB7b := Lib.hid ((HB7.out.trans (hb.mono HB7.out.size)).trans (hal.mono (HB7.out.trans (hb.mono HB7.out.size)).size))
      have HBA7b := Lib.hid ((HBA7.out.trans (hb.mono HBA7.out.size)).trans (hal.mono (HBA7.out.trans (hb.mono HBA7.out.size)).size))
      have HK1 := Lib.hid (bxA_new w81 x1)
      have HL1 : Hid (w81.heap.size < (w81.alloc (.cells #[.int .i64 x1.id, .string x1.nm, .int .i64 x1.ty, .bool x1.many, .int .i64 x1.un, .bool x1.part, .bool x1.ix] 33)).heap.size) := by show _ < _; simp
      clear hb hal HB7 HBA7 HC1
      have HB7 := HB7b
      have HBA7 := HBA7b
      clear HB7b HBA7b 
      go_upto_region 8 with (fail)
      obtain ⟨w91, hw91⟩ : ∃ w9, w81.alloc (.cells #[.int .i64 x1.id, .string x1.nm, .int .i64 x1.ty, .bool x1.many, .int .i64 x1.un, .bool x1.part, .bool x1.ix] 33) = w9 := ⟨_, rfl⟩
      rw [hw91] at HB7 HBA7 HK1 HL1  ⊢
      clear hw91
      have HC2 := Lib.hid (refByName_any A3 c3 (resL fs) s w91 ((HS3.out.next HBA7.out (Nat.le_refl _)).more HBA7.out.size) HLR.out)
      go_wp2_with fail
      refine HC2.out.mono ?_
      rintro e9 w82 ⟨rfl, hb⟩
      rw [HX.out, HXV.out]
      simp only [attV]
      have hal := (Below.refl w82.heap.size w82).alloc (Nat.le_refl _) (.cells #[.int .i64 x1.id, .string x1.nm, .int .i64 x1.ty, .bool x1.many, .int .i64 x1.un, .bool x1.part, .bool x1.ix] 33)
      have HB7b := Lib.hid ((HB7.out.trans (hb.mono HB7.out.size)).trans (hal.mono (HB7.out.trans (hb.mono HB7.out.size)).size))
      have HBA7b := Lib.hid ((HBA7.out.trans (hb.mono HBA7.out.size)).trans (hal.mono (HBA7.out.trans (hb.mono HBA7.out.size)).size))
      have HK2 := Lib.hid (bxA_new w82 x1)
      have HK1b := Lib.hid ((HK1.out.next hb (HL1.out)).next hal (Nat.lt_of_lt_of_le HL1.out hb.size))
      have HL1b : Hid (w81.heap.size < (w82.alloc (.cells #[.int .i64 x1.id, .string x1.nm, .int .i64 x1.ty, .bool x1.many, .int .i64 x1.un, .bool x1.part, .bool x1.ix] 33)).heap.size) := Nat.lt_of_lt_of_le (Nat.lt_of_lt_of_le HL1.out hb.size) hal.size
      have HL2 : Hid (w82.heap.size < (w82.alloc (.cells #[.int .i64 x1.id, .string x1.nm, .int .i64 x1.ty, .bool x1.many, .int .i64 x1.un, .bool x1.part, .bool x1.ix] 33)).heap.size) := by show _ < _; simp
      clear hb hal HB7 HBA7 HC2 HK1 HL1
      have HB7 := HB7b
      have HBA7 := HBA7b
      have HK1 := HK1b
      have HL1 := HL1b
      clear HB7b HBA7b HK1b HL1b
      go_upto_region 9 with (fail)
      obtain ⟨w92, hw92⟩ : ∃ w9, w82.alloc (.cells #[.int .i64 x1.id, .string x1.nm, .int .i64 x1.ty, .bool x1.many, .int .i64 x1.un, .bool x1.part, .bool x1.ix] 33) = w9 := ⟨_, rfl⟩
      rw [hw92] at HB7 HBA7 HK2 HL2 HK1 HL1 ⊢
      clear hw92
      have HC3 := Lib.hid (byID_any A2 c2 (resL fs) id w92 ((HS23.out.next HBA7.out (Nat.le_refl _)).more HBA7.out.size) HLR.out)
      go_wp2_with fail
      refine HC3.out.mono ?_
      rintro e9 w83 ⟨rfl, hb⟩
      rw [HY.out, HYV.out]
      simp only [attV]
      have hal := (Below.refl w83.heap.size w83).alloc (Nat.le_refl _) (.cells #[.int .i64 y1.id, .string y1.nm, .int .i64 y1.ty, .bool y1.many, .int .i64 y1.un, .bool y1.part, .bool y1.ix] 33)
      have HB7b := Lib.hid ((HB7.out.trans (hb.mono HB7.out.size)).trans (hal.mono (HB7.out.trans (hb.mono HB7.out.size)).size))
      have HBA7b := Lib.hid ((HBA7.out.trans (hb.mono HBA7.out.size)).trans (hal.mono (HBA7.out.trans (hb.mono HBA7.out.size)).size))
      have HK3 := Lib.hid (bxA_new w83 y1)
      have HK1b := Lib.hid ((HK1.out.next hb (HL1.out)).next hal (Nat.lt_of_lt_of_le HL1.out hb.size))
      have HK2b := Lib.hid ((HK2.out.next hb (HL2.out)).next hal (Nat.lt_of_lt_of_le HL2.out hb.size))
      have HL1b : Hid (w81.heap.size < (w83.alloc (.cells #[.int .i64 y1.id, .string y1.nm, .int .i64 y1.ty, .bool y1.many, .int .i64 y1.un, .bool y1.part, .bool y1.ix] 33)).heap.size) := Nat.lt_of_lt_of_le (Nat.lt_of_lt_of_le HL1.out hb.size) hal.size
      have HL2b : Hid (w82.heap.size < (w83.alloc (.cells #[.int .i64 y1.id, .string y1.nm, .int .i64 y1.ty, .bool y1.many, .int .i64 y1.un, .bool y1.part, .bool y1.ix] 33)).heap.size) := Nat.lt_of_lt_of_le (Nat.lt_of_lt_of_le HL2.out hb.size) hal.size
      have HL3 : Hid (w83.heap.size < (w83.alloc (.cells #[.int .i64 y1.id, .string y1.nm, .int .i64 y1.ty, .bool y1.many, .int .i64 y1.un, .bool y1.part, .bool y1.ix] 33)).heap.size) := by show _ < _; simp
      clear hb hal HB7 HBA7 HC3 HK1 HL1 HK2 HL2
      have HB7 := HB7b
      have HBA7 := HBA7b
      have HK1 := HK1b
      have HK2 := HK2b
      have HL1 := HL1b
      have HL2 := HL2b
      clear HB7b HBA7b HK1b HL1b HK2b HL2b
      go_upto_region 10 with (fail)
      obtain ⟨w93, hw93⟩ : ∃ w9, w83.alloc (.cells #[.int .i64 y1.id, .string y1.nm, .int .i64 y1.ty, .bool y1.many, .int .i64 y1.un, .bool y1.part, .bool y1.ix] 33) = w9 := ⟨_, rfl⟩
      rw [hw93] at HB7 HBA7 HK3 HL3 HK1 HL1 HK2 HL2 ⊢
      clear hw93
      have HC4 := Lib.hid (refByID_any A3 c3 (resL fs) id w93 ((HS3.out.next HBA7.out (Nat.le_refl _)).more HBA7.out.size) HLR.out)
      go_wp2_with fail
      refine HC4.out.mono ?_
      rintro e9 w84 ⟨rfl, hb⟩
      rw [HY.out, HYV.out]
      simp only [attV]
      have hal := (Below.refl w84.heap.size w84).alloc (Nat.le_refl _) (.cells #[.int .i64 y1.id, .string y1.nm, .int .i64 y1.ty, .bool y1.many, .int .i64 y1.un, .bool y1.part, .bool y1.ix] 33)
      have HB7b := Lib.hid ((HB7.out.trans (hb.mono HB7.out.size)).trans (hal.mono (HB7.out.trans (hb.mono HB7.out.size)).size))
      have HBA7b := Lib.hid ((HBA7.out.trans (hb.mono HBA7.out.size)).trans (hal.mono (HBA7.out.trans (hb.mono HBA7.out.size)).size))
      have HK4 := Lib.hid (bxA_new w84 y1)
      have HK1b := Lib.hid ((HK1.out.next hb (HL1.out)).next hal (Nat.lt_of_lt_of_le HL1.out hb.size))
      have HK2b := Lib.hid ((HK2.out.next hb (HL2.out)).next hal (Nat.lt_of_lt_of_le HL2.out hb.size))
      have HK3b := Lib.hid ((HK3.out.next hb (HL3.out)).next hal (Nat.lt_of_lt_of_le HL3.out hb.size))
      have HL1b : Hid (w81.heap.size < (w84.alloc (.cells #[.int .i64 y1.id, .string y1.nm, .int .i64 y1.ty, .bool y1.many, .int .i64 y1.un, .bool y1.part, .bool y1.ix] 33)).heap.size) := Nat.lt_of_lt_of_le (Nat.lt_of_lt_of_le HL1.out hb.size) hal.size
      have HL2b : Hid (w82.heap.size < (w84.alloc (.cells #[.int .i64 y1.id, .string y1.nm, .int .i64 y1.ty, .bool y1.many, .int .i64 y1.un, .bool y1.part, .bool y1.ix] 33)).heap.size) := Nat.lt_of_lt_of_le (Nat.lt_of_lt_of_le HL2.out hb.size) hal.size
      have HL3b : Hid (w83.heap.size < (w84.alloc (.cells #[.int .i64 y1.id, .string y1.nm, .int .i64 y1.ty, .bool y1.many, .int .i64 y1.un, .bool y1.part, .bool y1.ix] 33)).heap.size) := Nat.lt_of_lt_of_le (Nat.lt_of_lt_of_le HL3.out hb.size) hal.size
      have HL4 : Hid (w84.heap.size < (w84.alloc (.cells #[.int .i64 y1.id, .string y1.nm, .int .i64 y1.ty, .bool y1.many, .int .i64 y1.un, .bool y1.part, .bool y1.ix] 33)).heap.size) := by show _ < _; simp
      clear hb hal HB7 HBA7 HC4 HK1 HL1 HK2 HL2 HK3 HL3
      have HB7 := HB7b
      have HBA7 := HBA7b
      have HK1 := HK1b
      have HK2 := HK2b
      have HK3 := HK3b
      have HL1 := HL1b
      have HL2 := HL2b
      have HL3 := HL3b
      clear HB7b HBA7b HK1b HL1b HK2b HL2b HK3b HL3b
      go_upto_region 11 with (fail)
      have k10 := HK1.out.cell 0
      have k11 := HK1.out.cell 1
      have k12 := HK1.out.cell 2
      have k13 := HK1.out.cell 3
      have k14 := HK1.out.cell 4
      have k15 := HK1.out.cell 5
      have k16 := HK1.out.cell 6
      have k20 := HK2.out.cell 0
      have k21 := HK2.out.cell 1
      have k22 := HK2.out.cell 2
      have k23 := HK2.out.cell 3
      have k24 := HK2.out.cell 4
      have k25 := HK2.out.cell 5
      have k26 := HK2.out.cell 6
      have k30 := HK3.out.cell 0
      have k31 := HK3.out.cell 1
      have k32 := HK3.out.cell 2
      have k33 := HK3.out.cell 3
      have k34 := HK3.out.cell 4
      have k35 := HK3.out.cell 5
      have k36 := HK3.out.cell 6
      have k40 := HK4.out.cell 0
      have k41 := HK4.out.cell 1
      have k42 := HK4.out.cell 2
      have k43 := HK4.out.cell 3
      have k44 := HK4.out.cell 4
      have k45 := HK4.out.cell 5
      have k46 := HK4.out.cell 6
      have hqx := fun w => eqAtt x1 w
      have hqy := fun w => eqAtt y1 w
      unfold attV at hqx hqy
      go_wp2
      go_ret
      exact ⟨rfl, HB7.out⟩
end Go.Proofs.Ytoidkhojkekjeaa

/-
  A CUT OF FACTS: s[k:] and s[:k] at slices of facts, and what they read as; the cut attributes come in as runs.
-/
namespace Go.Proofs.Ytoidkhojkekjeaa
open Go.RowKit Go.Shelf

def cutFa (A : Option Addr) (c k : Nat) : Option Addr := if c = k then A else A.map (·.add (k * 6))
theorem sliceFa_from (A : Option Addr) (n c k : Nat) (hk : k ≤ n) (_hc : n ≤ c) (w : World) : (Instr.slice 22 (.slice A n c) (some (.int .i64 (k : Int))) none none).run Try.prog w = .ok (.slice (cutFa A c k) (n - k) (c - k)) w := by
  have hT : Try.prog.underlying 22 = some (.slice (Try.prog.elem 22)) := by kernel_rfl
  have hS : (Go.sizeOf (Try.prog.elem 22)).run Try.prog w = .ok 6 w := by kernel_rfl
  rw [run_slice_l (w := w) 22 A n c hT .i64 (k : Int) (by omega) (by omega), hS]
  simp [Result.andThen, sliced, cutFa]
/-- the facts behind the first k -/
theorem FVa.drop {W : World} {A : Option Addr} {c : Nat} {fs : List FactP} (h : FVa W (.slice A fs.length c) fs) (k : Nat) (hk : k ≤ fs.length) : FVa W (.slice (cutFa A c k) (fs.drop k).length (c - k)) (fs.drop k) := by
  obtain ⟨A2, c2, e, hs, h2, h3⟩ := h
  injection e with e1 _ e3
  subst e1
  subst e3
  refine ⟨_, _, rfl, fun hl => ?_, by rw [List.length_drop]; omega, by omega⟩
  have hkl : k < fs.length := by
    rcases Nat.lt_or_ge k fs.length with h1 | h1
    · exact h1
    · exact absurd (List.drop_of_length_le h1) hl
  obtain ⟨b, o, rfl, hlt, hc⟩ := hs (fun e => by rw [e] at hkl; exact absurd hkl (Nat.not_lt_zero _))
  refine ⟨b, o + k * 6, ?_, hlt, fun j f hf => ?_⟩
  · unfold cutFa
    rw [if_neg (by omega)]
    show some ((⟨b, o, none⟩ : Addr).add (k * 6)) = _
    rw [addI]
  · rw [List.getElem?_drop] at hf
    obtain ⟨sv, h4, h5⟩ := hc (k + j) f hf
    refine ⟨sv, ?_, h5⟩
    rwa [show o + k * 6 + j * 6 = o + (k + j) * 6 by omega]
/-- the first k facts -/
theorem FVa.take {W : World} {A : Option Addr} {c : Nat} {fs : List FactP} (h : FVa W (.slice A fs.length c) fs) (k : Nat) (hk : k ≤ fs.length) : FVa W (.slice A (fs.take k).length c) (fs.take k) := by
  obtain ⟨A2, c2, e, hs, h2, h3⟩ := h
  injection e with e1 _ e3
  subst e1
  subst e3
  refine ⟨_, _, rfl, fun hl => ?_, by rw [List.length_take]; omega, h3⟩
  obtain ⟨b, o, rfl, hlt, hc⟩ := hs (fun e => hl (by rw [e]; simp))
  refine ⟨b, o, rfl, hlt, fun j f hf => ?_⟩
  rw [List.getElem?_take] at hf
  split at hf
  · exact hc j f hf
  · cases hf
/-- there is a cut into entities -/
theorem runsE_any : ∀ (n : Nat) (fs : List FactP), fs.length ≤ n → ∃ rs, RunsE fs rs := by
  intro n
  induction n with
  | zero =>
    intro fs h
    obtain rfl := List.length_eq_zero_iff.1 (Nat.le_zero.1 h)
    exact ⟨[], .nil⟩
  | succ n ih =>
    intro fs h
    cases fs with
    | nil => exact ⟨[], .nil⟩
    | cons f l =>
      have hone : ∃ k, OneAt (f :: l) k := by
        refine ⟨((f :: l).takeWhile fun g => decide (g.e = f.e)).length, ?_⟩
        have hw : (f :: l).takeWhile (fun g => decide (g.e = f.e)) = f :: l.takeWhile (fun g => decide (g.e = f.e)) := by rw [List.takeWhile_cons]; simp
        have hp : (f :: l).takeWhile (fun g => decide (g.e = f.e)) <+: (f :: l) := List.takeWhile_prefix _
        refine ⟨by rw [hw]; simp, hp.length_le, fun i a b hi ha hb => ?_, fun a b ha hb => ?_⟩
        · simp at hb
          subst hb
          have hi2 : ((f :: l).takeWhile fun g => decide (g.e = f.e))[i]? = some a := by
            obtain ⟨t, ht⟩ := hp
            rw [← ht, List.getElem?_append_left hi] at ha
            exact ha
          have := List.all_eq_true.1 (List.all_takeWhile (p := fun g : FactP => decide (g.e = f.e)) (l := f :: l)) a (List.mem_of_getElem? hi2)
          simpa using this
        · simp at hb
          subst hb
          intro he
          have hd : (f :: l).dropWhile (fun g => decide (g.e = f.e)) = (f :: l).drop ((f :: l).takeWhile fun g => decide (g.e = f.e)).length := by
            have h1 := List.takeWhile_append_dropWhile (p := fun g : FactP => decide (g.e = f.e)) (l := f :: l)
            have h2 : (f :: l).drop ((f :: l).takeWhile fun g => decide (g.e = f.e)).length = (((f :: l).takeWhile fun g => decide (g.e = f.e)) ++ (f :: l).dropWhile fun g => decide (g.e = f.e)).drop ((f :: l).takeWhile fun g => decide (g.e = f.e)).length := by rw [h1]
            rw [h2, List.drop_left]
          have hh : ((f :: l).dropWhile fun g => decide (g.e = f.e)).head? = some a := by rw [hd, List.head?_drop]; exact ha
          have := List.head?_dropWhile_not (fun g : FactP => decide (g.e = f.e)) (f :: l)
          rw [hh] at this
          simp at this
          exact this he
      obtain ⟨k, hk⟩ := hone
      have hkp := hk.pos
      obtain ⟨rs, hr⟩ := ih ((f :: l).drop k) (by rw [List.length_drop]; simp only [List.length_cons] at h ⊢; omega)
      exact ⟨_, .cons hk hr⟩
end Go.Proofs.Ytoidkhojkekjeaa
