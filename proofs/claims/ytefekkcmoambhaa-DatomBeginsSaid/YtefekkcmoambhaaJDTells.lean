/-
  THE LAW DatomTells: its walk.
-/
import Derived.Test.YtefekkcmoambhaaJDRefRd
namespace Go.Proofs.Ytefekkcmoambhaa
open Go.RowKit

def keyDL (o : Int) (d : Dat) : List UInt8 := if fitD o d = true then keyD o d else []
def keyDN (o : Int) (d : Dat) : Int := if isO o = true then if fitD o d = true then 0 else 40 else 2
def rdD (o : Int) (b : List UInt8) : Dat := if isO o = true then (readD o b).getD zeroD else zeroD
def rdN (o : Int) (b : List UInt8) : Int := if isO o = true then if (readD o b).isSome = true then 0 else 40 else 2
theorem dKeyEnd_is {W w' : World} {o : Int} {d : Dat} {e : Ending} (h : DKeyEnd W o d e w') : ∃ A c, e = .returned (.tuple #[.slice A (keyDL o d).length c, .int .i64 (keyDN o d)]) ∧ SlB w' w'.heap.size A (keyDL o d) ∧ (keyDL o d).length ≤ c ∧ c ≤ maxLen ∧ Below W.heap.size W w' := by
  obtain ⟨⟨ho, rfl⟩ | ⟨ho, hf, rfl⟩ | ⟨hf, v, rfl, hown⟩, hb⟩ := h
  · have hf : fitD o d = false := by
      cases hh : fitD o d with
      | false => rfl
      | true => rw [fitD_isO hh] at ho; cases ho
    unfold keyDL keyDN
    rw [ho, hf]
    exact ⟨none, 0, rfl, fun h => absurd rfl h, Nat.le_refl _, Nat.zero_le _, hb⟩
  · unfold keyDL keyDN
    rw [ho, hf]
    exact ⟨none, 0, rfl, fun h => absurd rfl h, Nat.le_refl _, Nat.zero_le _, hb⟩
  · obtain ⟨A, c, rfl⟩ := ownB_form hown
    obtain ⟨h1, h2⟩ := ownB_cap hown
    unfold keyDL keyDN
    rw [if_pos hf, if_pos (fitD_isO hf), if_pos hf]
    exact ⟨A, c, rfl, (SlB.of_own hown).2, h1, h2, hb⟩
theorem dReadEnd_is {W w' : World} {o : Int} {b : List UInt8} {e : Ending} (h : DReadEnd W o b e w') : e = .returned (.tuple #[dV (rdD o b), .int .i64 (rdN o b)]) ∧ Below W.heap.size W w' := by
  obtain ⟨⟨ho, rfl⟩ | ⟨ho, hf, rfl⟩ | ⟨ho, d, hf, rfl⟩, hb⟩ := h
  · unfold rdD rdN
    rw [ho]
    exact ⟨rfl, hb⟩
  · unfold rdD rdN
    rw [ho, hf]
    exact ⟨rfl, hb⟩
  · unfold rdD rdN
    rw [ho, hf]
    exact ⟨rfl, hb⟩
theorem dReadEnd_at {W w' : World} {o : Int} {b : List UInt8} {e : Ending} {R : Dat} (hR : rdD o b = R) (h : DReadEnd W o b e w') : e = .returned (.tuple #[.agg #[.int .i64 R.e, .int .i64 R.a, .int .i64 R.k, .int .i64 R.m, .string R.s, .int .i64 R.t, .bool R.add, .int .i64 R.fr, .int .i64 R.til], .int .i64 (rdN o b)]) ∧ Below W.heap.size W w' := by
  obtain ⟨h1, h2⟩ := dReadEnd_is h
  rw [hR] at h1
  exact ⟨h1, h2⟩
theorem eqlD (d : Dat) (w : World) : (binOp .eql 42 (.agg #[.int .i64 d.e, .int .i64 d.a, .int .i64 d.k, .int .i64 d.m, .string d.s, .int .i64 d.t, .bool d.add, .int .i64 d.fr, .int .i64 d.til]) (.agg #[.int .i64 d.e, .int .i64 d.a, .int .i64 d.k, .int .i64 d.m, .string d.s, .int .i64 d.t, .bool d.add, .int .i64 d.fr, .int .i64 d.til])).run Try.prog w = .ok (.bool true) w := by
  have u4 := Try.underlying4
  have u3 := Try.underlying3
  have u2 := Try.underlying2
  have u9 := Try.underlying9
  have a4 := Try.isAgg4
  have a3 := Try.isAgg3
  have a2 := Try.isAgg2
  have a9 := Try.isAgg9
  have aV := Try.isAgg24
  have hS : Try.prog.underlying 42 = some (.struct (Try.prog.fieldsOf 42)) := by kernel_rfl
  have hp : Try.prog.stoodInHeld 42 = false := by kernel_rfl
  have hS' : Try.prog.underlying 24 = some (.struct (Try.prog.fieldsOf 24)) := by kernel_rfl
  have hp' : Try.prog.stoodInHeld 24 = false := by kernel_rfl
  have hV : ∀ w, (Op.equalIn 9999 24 (.agg #[.int .i64 d.k, .int .i64 d.m, .string d.s]) (.agg #[.int .i64 d.k, .int .i64 d.m, .string d.s])).run Try.prog w = .ok true w := fun w => by
    rw [show (9999 : Nat) = 9998 + 1 from rfl, run_equalIn_agg w 9998 24 _ _ hS' hp']
    simp only [Program.fieldsOf, Try.underlying24]
    go_simp
  rw [run_eql_struct, show (10000 : Nat) = 9999 + 1 from rfl, run_equalIn_agg w 9999 42 _ _ hS hp]
  simp only [Program.fieldsOf, Try.underlying42]
  go_simp
/-- what the last region reads -/
def TS (N ba bb b1 b2 : Nat) (a b D : Dat) (X Y : Option Addr) (K : List UInt8) (W : World) : Prop :=
  (DatAt W ba a ∧ DatAt W bb b) ∧ (DatAt W b1 D ∧ DatAt W b2 D) ∧ (SlB W N X K ∧ SlB W N Y K) ∧ N ≤ W.heap.size
theorem TS.next {N ba bb b1 b2 : Nat} {a b D : Dat} {X Y : Option Addr} {K : List UInt8} {W W' : World} (h : TS N ba bb b1 b2 a b D X Y K W) (hb : Below W.heap.size W W') : TS N ba bb b1 b2 a b D X Y K W' :=
  ⟨⟨h.1.1.next hb h.1.1.lt, h.1.2.next hb h.1.2.lt⟩, ⟨h.2.1.1.next hb h.2.1.1.lt, h.2.1.2.next hb h.2.1.2.lt⟩, ⟨h.2.2.1.1.next hb h.2.2.2, h.2.2.1.2.next hb h.2.2.2⟩, Nat.le_trans h.2.2.2 hb.size⟩

set_option maxRecDepth 100000 in
set_option maxHeartbeats 8000000 in
theorem dTells_any (o : Int) (a b : Dat) (A : Option Addr) (c : Nat) (l : List UInt8) (w : World) (hoa : DatOk a) (_hob : DatOk b) (hsa : a.s.size ≤ maxLen) (hsb : b.s.size ≤ maxLen) (hs : SlB w w.heap.size A l) (hlc : l.length ≤ c) (hc : c ≤ maxLen) :
    Calls Try.prog 5 #[.int .i64 o, .agg #[.int .i64 a.e, .int .i64 a.a, .int .i64 a.k, .int .i64 a.m, .string a.s, .int .i64 a.t, .bool a.add, .int .i64 a.fr, .int .i64 a.til], .agg #[.int .i64 b.e, .int .i64 b.a, .int .i64 b.k, .int .i64 b.m, .string b.s, .int .i64 b.t, .bool b.add, .int .i64 b.fr, .int .i64 b.til], .slice A l.length c] w fun e w' => e = .returned (.bool true) ∧ Below w.heap.size w w' := by
  have hmx : 50000 ≤ maxLen := by decide
  have HB0 : Hid (Below w.heap.size w ((w.alloc (.cells #[.int .i64 a.e, .int .i64 a.a, .int .i64 a.k, .int .i64 a.m, .string a.s, .int .i64 a.t, .bool a.add, .int .i64 a.fr, .int .i64 a.til] 42)).alloc (.cells #[.int .i64 b.e, .int .i64 b.a, .int .i64 b.k, .int .i64 b.m, .string b.s, .int .i64 b.t, .bool b.add, .int .i64 b.fr, .int .i64 b.til] 42))) := ((Below.refl _ _).alloc (Nat.le_refl _) _).alloc (by simp) _
  have hm1 : a.s.size ≤ 9223372036854775807 := hsa
  have hm2 : b.s.size ≤ 9223372036854775807 := hsb
  by_cases h1 : (2000 : Int) < (a.s.size : Int)
  · go_enter Try.func5, Try.ntmps5
    go_wp2
    go_ret
    exact ⟨rfl, HB0.out⟩
  have h1' : decide ((2000 : Int) < (a.s.size : Int)) = false := decide_eq_false h1
  by_cases h2 : (2000 : Int) < (b.s.size : Int)
  · go_enter Try.func5, Try.ntmps5
    go_wp2
    go_ret
    exact ⟨rfl, HB0.out⟩
  have h2' : decide ((2000 : Int) < (b.s.size : Int)) = false := decide_eq_false h2
  by_cases h3 : (3000 : Int) < (l.length : Int)
  · go_enter Try.func5, Try.ntmps5
    go_wp2
    go_ret
    exact ⟨rfl, HB0.out⟩
  have h3' : decide ((3000 : Int) < (l.length : Int)) = false := decide_eq_false h3
  have HLC := Lib.hid (And.intro hlc hc)
  have HS := Lib.hid hs
  have HZA : Hid (a.s.size ≤ 2000) := by show _ ≤ _; omega
  have HZB : Hid (b.s.size ≤ 2000) := by show _ ≤ _; omega
  have HZL : Hid (l.length ≤ 3000) := by show _ ≤ _; omega
  have HMX := Lib.hid hmx
  obtain ⟨m, hm⟩ : ∃ m, mayD a = m := ⟨_, rfl⟩
  have HMA := Lib.hid (fun X => by have h9 := rMay_any a X (by omega); rw [hm] at h9; exact h9)
  have hck := fun X => dCheck_any a X (show a.s.size ≤ maxLen by omega)
  rw [hm] at hck
  obtain ⟨eN, heN⟩ : ∃ eN : Int, (if m = true then 0 else 40) = eN := ⟨_, rfl⟩
  rw [heN] at hck
  have HCK := Lib.hid hck
  have HEN := Lib.hid heN
  clear hck heN
  obtain ⟨R, hR⟩ : ∃ R, rdD o l = R := ⟨_, rfl⟩
  have HRR := Lib.hid hR
  clear hR
  have HKA := Lib.hid (fun X => keyD_any o a X (by omega) hoa)
  have HKB := Lib.hid (fun X => rKey_any o a X (by omega) hoa)
  have HC1 := Lib.hid (fun X => cmpD_any o a b X)
  have HC2 := Lib.hid (fun X => rCmp_any o a b X (by omega) (by omega))
  have HAA : Hid (DatAt ((w.alloc (.cells #[.int .i64 a.e, .int .i64 a.a, .int .i64 a.k, .int .i64 a.m, .string a.s, .int .i64 a.t, .bool a.add, .int .i64 a.fr, .int .i64 a.til] 42)).alloc (.cells #[.int .i64 b.e, .int .i64 b.a, .int .i64 b.k, .int .i64 b.m, .string b.s, .int .i64 b.t, .bool b.add, .int .i64 b.fr, .int .i64 b.til] 42)) w.heap.size a) := (datAt_new w a).alloc _
  have HBB : Hid (DatAt ((w.alloc (.cells #[.int .i64 a.e, .int .i64 a.a, .int .i64 a.k, .int .i64 a.m, .string a.s, .int .i64 a.t, .bool a.add, .int .i64 a.fr, .int .i64 a.til] 42)).alloc (.cells #[.int .i64 b.e, .int .i64 b.a, .int .i64 b.k, .int .i64 b.m, .string b.s, .int .i64 b.t, .bool b.add, .int .i64 b.fr, .int .i64 b.til] 42)) (w.heap.size + 1) b) := by
    have := datAt_new (w.alloc (.cells #[.int .i64 a.e, .int .i64 a.a, .int .i64 a.k, .int .i64 a.m, .string a.s, .int .i64 a.t, .bool a.add, .int .i64 a.fr, .int .i64 a.til] 42)) b
    rwa [World.size_alloc] at this
  clear hs hlc hc hmx hm
  go_enter Try.func5, Try.ntmps5
  go_wp2_with fail
  refine (HMA.out _).mono ?_
  rintro e w1 ⟨rfl, hb⟩
  have HAA0 := Lib.hid (HAA.out.next hb HAA.out.lt)
  have HBB0 := Lib.hid (HBB.out.next hb HBB.out.lt)
  have HB00 := Lib.hid (HB0.out.trans (hb.mono HB0.out.size))
  clear HAA HBB HB0
  have HAA := HAA0
  have HBB := HBB0
  have HB0 := HB00
  clear HAA0 HBB0 HB00
  clear hb HMA
  have d0 := HAA.out.c0
  have d1 := HAA.out.c1
  have d2 := HAA.out.c2
  have d3 := HAA.out.c3
  have d4 := HAA.out.c4
  have d5 := HAA.out.c5
  have d6 := HAA.out.c6
  have d7 := HAA.out.c7
  have d8 := HAA.out.c8
  go_wp2_with fail
  refine (HCK.out _).mono ?_
  rintro e w2 ⟨rfl, hb⟩
  clear d0 d1 d2 d3 d4 d5 d6 d7 d8
  have HAA0 := Lib.hid (HAA.out.next hb HAA.out.lt)
  have HBB0 := Lib.hid (HBB.out.next hb HBB.out.lt)
  have HB00 := Lib.hid (HB0.out.trans (hb.mono HB0.out.size))
  clear HAA HBB HB0
  have HAA := HAA0
  have HBB := HBB0
  have HB0 := HB00
  clear HAA0 HBB0 HB00
  clear hb HCK
  have d0 := HAA.out.c0
  have d1 := HAA.out.c1
  have d2 := HAA.out.c2
  have d3 := HAA.out.c3
  have d4 := HAA.out.c4
  have d5 := HAA.out.c5
  have d6 := HAA.out.c6
  have d7 := HAA.out.c7
  have d8 := HAA.out.c8
  go_wp2_with fail
  refine (HKA.out _).mono ?_
  rintro e w3 he
  obtain ⟨X, xc, rfl, hx, _, _, hb⟩ := dKeyEnd_is he
  clear d0 d1 d2 d3 d4 d5 d6 d7 d8
  have HAA0 := Lib.hid (HAA.out.next hb HAA.out.lt)
  have HBB0 := Lib.hid (HBB.out.next hb HBB.out.lt)
  have HB00 := Lib.hid (HB0.out.trans (hb.mono HB0.out.size))
  clear HAA HBB HB0
  have HAA := HAA0
  have HBB := HBB0
  have HB0 := HB00
  clear HAA0 HBB0 HB00
  have HX := Lib.hid hx
  clear hb he hx HKA
  have d0 := HAA.out.c0
  have d1 := HAA.out.c1
  have d2 := HAA.out.c2
  have d3 := HAA.out.c3
  have d4 := HAA.out.c4
  have d5 := HAA.out.c5
  have d6 := HAA.out.c6
  have d7 := HAA.out.c7
  have d8 := HAA.out.c8
  go_wp2_with fail
  refine (HKB.out _).mono ?_
  rintro e w4 he
  obtain ⟨Y, yc, rfl, hy, _, _, hb⟩ := dKeyEnd_is he
  clear d0 d1 d2 d3 d4 d5 d6 d7 d8
  have HAA0 := Lib.hid (HAA.out.next hb HAA.out.lt)
  have HBB0 := Lib.hid (HBB.out.next hb HBB.out.lt)
  have HB00 := Lib.hid (HB0.out.trans (hb.mono HB0.out.size))
  clear HAA HBB HB0
  have HAA := HAA0
  have HBB := HBB0
  have HB0 := HB00
  clear HAA0 HBB0 HB00
  have HX0 := Lib.hid ((HX.out.next hb (Nat.le_refl _)).more hb.size)
  have HY := Lib.hid hy
  have HS4 := Lib.hid ((HS.out.next HB0.out (Nat.le_refl _)).more HB0.out.size)
  clear hb he hy HKB HX
  go_wp2_with fail
  refine (dRead_any o A c l _ HS4.out (by have := HZL.out; omega) HLC.out.1 HLC.out.2).mono ?_
  rintro e w5 he
  obtain ⟨rfl, hb⟩ := dReadEnd_at HRR.out he
  have HAA0 := Lib.hid (HAA.out.next hb HAA.out.lt)
  have HBB0 := Lib.hid (HBB.out.next hb HBB.out.lt)
  have HB00 := Lib.hid (HB0.out.trans (hb.mono HB0.out.size))
  clear HAA HBB HB0
  have HAA := HAA0
  have HBB := HBB0
  have HB0 := HB00
  clear HAA0 HBB0 HB00
  have HX1 := Lib.hid ((HX0.out.next hb (Nat.le_refl _)).more hb.size)
  have HY1 := Lib.hid ((HY.out.next hb (Nat.le_refl _)).more hb.size)
  have hX5 := (Below.refl w5.heap.size w5).alloc (Nat.le_refl _) (.cells #[.int .i64 R.e, .int .i64 R.a, .int .i64 R.k, .int .i64 R.m, .string R.s, .int .i64 R.t, .bool R.add, .int .i64 R.fr, .int .i64 R.til] 42)
  have HB5 := Lib.hid (HB0.out.trans (hX5.mono HB0.out.size))
  have HS5 := Lib.hid ((HS.out.next HB5.out (Nat.le_refl _)).more HB5.out.size)
  have HX2 := Lib.hid ((HX1.out.next hX5 (Nat.le_refl _)).more hX5.size)
  have HY2 := Lib.hid ((HY1.out.next hX5 (Nat.le_refl _)).more hX5.size)
  have HR5 := Lib.hid (datAt_new w5 R)
  have HA5 := Lib.hid (HAA.out.alloc (.cells #[.int .i64 R.e, .int .i64 R.a, .int .i64 R.k, .int .i64 R.m, .string R.s, .int .i64 R.t, .bool R.add, .int .i64 R.fr, .int .i64 R.til] 42))
  have HBB5 := Lib.hid (HBB.out.alloc (.cells #[.int .i64 R.e, .int .i64 R.a, .int .i64 R.k, .int .i64 R.m, .string R.s, .int .i64 R.t, .bool R.add, .int .i64 R.fr, .int .i64 R.til] 42))
  clear hb he HX0 HY HS4 hX5 HAA HBB HB0 HX1 HY1
  go_wp2_with fail
  refine (dRefRead_any o A c l _ HS5.out (by have := HZL.out; omega) HLC.out.1 HLC.out.2).mono ?_
  rintro e w6 he
  obtain ⟨rfl, hb⟩ := dReadEnd_at HRR.out he
  have HB6 := Lib.hid ((HB5.out.trans (hb.mono HB5.out.size)).alloc (Nat.le_trans HB5.out.size hb.size) (.cells #[.int .i64 R.e, .int .i64 R.a, .int .i64 R.k, .int .i64 R.m, .string R.s, .int .i64 R.t, .bool R.add, .int .i64 R.fr, .int .i64 R.til] 42))
  have hal := (Below.refl w6.heap.size w6).alloc (Nat.le_refl _) (.cells #[.int .i64 R.e, .int .i64 R.a, .int .i64 R.k, .int .i64 R.m, .string R.s, .int .i64 R.t, .bool R.add, .int .i64 R.fr, .int .i64 R.til] 42)
  have HTS : Hid (TS (w6.alloc (.cells #[.int .i64 R.e, .int .i64 R.a, .int .i64 R.k, .int .i64 R.m, .string R.s, .int .i64 R.t, .bool R.add, .int .i64 R.fr, .int .i64 R.til] 42)).heap.size w.heap.size (w.heap.size + 1) w5.heap.size w6.heap.size a b R X Y (keyDL o a) (w6.alloc (.cells #[.int .i64 R.e, .int .i64 R.a, .int .i64 R.k, .int .i64 R.m, .string R.s, .int .i64 R.t, .bool R.add, .int .i64 R.fr, .int .i64 R.til] 42))) :=
    ⟨⟨(HA5.out.next hb HA5.out.lt).alloc _, (HBB5.out.next hb HBB5.out.lt).alloc _⟩, ⟨(HR5.out.next hb HR5.out.lt).alloc _, datAt_new w6 R⟩, ⟨((((HX2.out.next hb (Nat.le_refl _)).more hb.size).next hal (Nat.le_refl _)).more hal.size), ((((HY2.out.next hb (Nat.le_refl _)).more hb.size).next hal (Nat.le_refl _)).more hal.size)⟩, Nat.le_refl _⟩
  obtain ⟨w7, hw7⟩ : ∃ w7, w6.alloc (.cells #[.int .i64 R.e, .int .i64 R.a, .int .i64 R.k, .int .i64 R.m, .string R.s, .int .i64 R.t, .bool R.add, .int .i64 R.fr, .int .i64 R.til] 42) = w7 := ⟨_, rfl⟩
  obtain ⟨KN, hKN⟩ : ∃ K, keyDN o a = K := ⟨_, rfl⟩
  obtain ⟨RN, hRN⟩ : ∃ K, rdN o l = K := ⟨_, rfl⟩
  obtain ⟨CV, hCV⟩ : ∃ K, ordD o a b = K := ⟨_, rfl⟩
  have HC1 : Hid (∀ X, Calls Try.prog 34 #[.int .i64 o, .agg #[.int .i64 a.e, .int .i64 a.a, .int .i64 a.k, .int .i64 a.m, .string a.s, .int .i64 a.t, .bool a.add, .int .i64 a.fr, .int .i64 a.til], .agg #[.int .i64 b.e, .int .i64 b.a, .int .i64 b.k, .int .i64 b.m, .string b.s, .int .i64 b.t, .bool b.add, .int .i64 b.fr, .int .i64 b.til]] X fun e w' => e = .returned (.int .i64 CV) ∧ Below X.heap.size X w') := by rw [← hCV]; exact HC1.out
  have HC2 : Hid (∀ X, Calls Try.prog 35 #[.int .i64 o, .agg #[.int .i64 a.e, .int .i64 a.a, .int .i64 a.k, .int .i64 a.m, .string a.s, .int .i64 a.t, .bool a.add, .int .i64 a.fr, .int .i64 a.til], .agg #[.int .i64 b.e, .int .i64 b.a, .int .i64 b.k, .int .i64 b.m, .string b.s, .int .i64 b.t, .bool b.add, .int .i64 b.fr, .int .i64 b.til]] X fun e w' => e = .returned (.int .i64 CV) ∧ Below X.heap.size X w') := by rw [← hCV]; exact HC2.out
  rw [hKN, hRN]
  rw [hw7] at HTS HB6
  clear he hb hal hKN hRN hCV HB5 HS5 HX2 HY2 HR5 HA5 HBB5
  go_wp2_with fail
  (try rw [hw7])
  obtain ⟨S9, hS9⟩ : ∃ S : ByteArray, ⟨(keyDL o a).toArray⟩ = S := ⟨_, rfl⟩
  obtain ⟨KL, hKL⟩ : ∃ K, keyDL o a = K := ⟨_, rfl⟩
  rw [hKL] at HTS hS9
  rw [hKL]
  have HS9 := Lib.hid hS9
  have hed := eqlD R
  have HSD : Hid (TS w7.heap.size w.heap.size (w.heap.size + 1) w5.heap.size w6.heap.size a b R X Y KL w7.drew) := HTS.out
  obtain ⟨wd, hwd⟩ : ∃ wd, w7.drew = wd := ⟨_, rfl⟩
  have HBD : Hid (Below w.heap.size w wd) := by rw [← hwd]; exact HB6.out.drew
  rw [hwd] at HSD
  clear hw7 hKL hS9 HTS HB6
  cases m

  · have heN : eN = 40 := by rw [← HEN.out]; rfl
    subst heN
    refine wp_region_held_drew (S := TS w7.heap.size w.heap.size (w.heap.size + 1) w5.heap.size w6.heap.size a b R X Y KL) (by kernel_rfl) (by rw [hwd]; exact HSD.out) (fun hHeld => ?_)
    rw [hwd] at hHeld ⊢
    clear hwd
    refine takeV 0 (some 64) ((.int .i64 40)) rfl rfl (by kernel_rfl) (by kernel_rfl) (by kernel_rfl) (fun _ _ _ h => h) (by rfl) (by (intro _w _hSw; (try dsimp only at _hSw); go_simp)) (by assumption) ?_
    simp only [Act.put, List.setIfInBounds_toArray, List.set_cons_zero, List.set_cons_succ]
    refine takeV 1 (some 65) ((.bool false)) rfl rfl (by kernel_rfl) (by kernel_rfl) (by kernel_rfl) (fun _ _ _ h => h) (by rfl) (by (intro _w _hSw; (try dsimp only at _hSw); go_simp)) (by assumption) ?_
    simp only [Act.put, List.setIfInBounds_toArray, List.set_cons_zero, List.set_cons_succ]
    refine takeV 2 (some 66) ((.bool false)) rfl rfl (by kernel_rfl) (by kernel_rfl) (by kernel_rfl) (fun _ _ _ h => h) (by rfl) (by (intro _w _hSw; (try dsimp only at _hSw); go_simp)) (by assumption) ?_
    simp only [Act.put, List.setIfInBounds_toArray, List.set_cons_zero, List.set_cons_succ]
    refine takeV 3 (some 67) ((.bool true)) rfl rfl (by kernel_rfl) (by kernel_rfl) (by kernel_rfl) (fun _ _ _ h => h) (by rfl) (by (intro _w _hSw; (try dsimp only at _hSw); go_simp)) (by assumption) ?_
    simp only [Act.put, List.setIfInBounds_toArray, List.set_cons_zero, List.set_cons_succ]
    refine takeV 4 (some 68) ((.bool true)) rfl rfl (by kernel_rfl) (by kernel_rfl) (by kernel_rfl) (fun _ _ _ h => h) (by rfl) (by (intro _w _hSw; (try dsimp only at _hSw); go_simp)) (by assumption) ?_
    simp only [Act.put, List.setIfInBounds_toArray, List.set_cons_zero, List.set_cons_succ]
    refine takeV 5 (some 69) ((.bool false)) rfl rfl (by kernel_rfl) (by kernel_rfl) (by kernel_rfl) (fun _ _ _ h => h) (by rfl) (by (intro _w _hSw; (try dsimp only at _hSw); go_simp)) (by assumption) ?_
    simp only [Act.put, List.setIfInBounds_toArray, List.set_cons_zero, List.set_cons_succ]
    refine takeV 6 (some 70) ((.bool false)) rfl rfl (by kernel_rfl) (by kernel_rfl) (by kernel_rfl) (fun _ _ _ h => h) (by rfl) (by (intro _w _hSw; (try dsimp only at _hSw); go_simp)) (by assumption) ?_
    simp only [Act.put, List.setIfInBounds_toArray, List.set_cons_zero, List.set_cons_succ]
    refine takeV 7 (some 71) ((.int .i64 40)) rfl rfl (by kernel_rfl) (by kernel_rfl) (by kernel_rfl) (fun _ _ _ h => h) (by rfl) (by (intro _w _hSw; (try dsimp only at _hSw); go_simp)) (by assumption) ?_
    simp only [Act.put, List.setIfInBounds_toArray, List.set_cons_zero, List.set_cons_succ]
    refine takeV 8 (some 72) ((.bool true)) rfl rfl (by kernel_rfl) (by kernel_rfl) (by kernel_rfl) (fun _ _ _ h => h) (by rfl) (by (intro _w _hSw; (try dsimp only at _hSw); go_simp)) (by assumption) ?_
    simp only [Act.put, List.setIfInBounds_toArray, List.set_cons_zero, List.set_cons_succ]
    refine takeV 9 (some 73) ((.bool true)) rfl rfl (by kernel_rfl) (by kernel_rfl) (by kernel_rfl) (fun _ _ _ h => h) (by rfl) (by (intro _w _hSw; (try dsimp only at _hSw); go_simp)) (by assumption) ?_
    simp only [Act.put, List.setIfInBounds_toArray, List.set_cons_zero, List.set_cons_succ]
    refine takeV 10 (some 74) ((.bool true)) rfl rfl (by kernel_rfl) (by kernel_rfl) (by kernel_rfl) (fun _ _ _ h => h) (by rfl) (by (intro _w _hSw; (try dsimp only at _hSw); go_simp)) (by assumption) ?_
    simp only [Act.put, List.setIfInBounds_toArray, List.set_cons_zero, List.set_cons_succ]
    refine takeV 11 (some 75) ((.bool true)) rfl rfl (by kernel_rfl) (by kernel_rfl) (by kernel_rfl) (fun _ _ _ h => h) (by rfl) (by (intro _w _hSw; (try dsimp only at _hSw); go_simp)) (by assumption) ?_
    simp only [Act.put, List.setIfInBounds_toArray, List.set_cons_zero, List.set_cons_succ]
    refine takeV 12 (some 76) ((.int .i64 o)) rfl rfl (by kernel_rfl) (by kernel_rfl) (by kernel_rfl) (fun _ _ _ h => h) (by rfl) (by (intro _w _hSw; (try dsimp only at _hSw); go_simp)) (by assumption) ?_
    simp only [Act.put, List.setIfInBounds_toArray, List.set_cons_zero, List.set_cons_succ]
    refine takeV 13 (some 77) ((.agg #[.int .i64 a.e, .int .i64 a.a, .int .i64 a.k, .int .i64 a.m, .string a.s, .int .i64 a.t, .bool a.add, .int .i64 a.fr, .int .i64 a.til])) rfl rfl (by kernel_rfl) (by kernel_rfl) (by kernel_rfl) (fun _ _ _ h => h) (by rfl) (by (intro _w hSw; have q0 := hSw.1.1.c0; have q1 := hSw.1.1.c1; have q2 := hSw.1.1.c2; have q3 := hSw.1.1.c3; have q4 := hSw.1.1.c4; have q5 := hSw.1.1.c5; have q6 := hSw.1.1.c6; have q7 := hSw.1.1.c7; have q8 := hSw.1.1.c8; clear hSw; go_simp)) (by assumption) ?_
    simp only [Act.put, List.setIfInBounds_toArray, List.set_cons_zero, List.set_cons_succ]
    refine takeV 14 (some 78) ((.agg #[.int .i64 b.e, .int .i64 b.a, .int .i64 b.k, .int .i64 b.m, .string b.s, .int .i64 b.t, .bool b.add, .int .i64 b.fr, .int .i64 b.til])) rfl rfl (by kernel_rfl) (by kernel_rfl) (by kernel_rfl) (fun _ _ _ h => h) (by rfl) (by (intro _w hSw; have q0 := hSw.1.2.c0; have q1 := hSw.1.2.c1; have q2 := hSw.1.2.c2; have q3 := hSw.1.2.c3; have q4 := hSw.1.2.c4; have q5 := hSw.1.2.c5; have q6 := hSw.1.2.c6; have q7 := hSw.1.2.c7; have q8 := hSw.1.2.c8; clear hSw; go_simp)) (by assumption) ?_
    simp only [Act.put, List.setIfInBounds_toArray, List.set_cons_zero, List.set_cons_succ]
    refine takeV 16 (some 80) ((.int .i64 o)) rfl rfl (by kernel_rfl) (by kernel_rfl) (by kernel_rfl) (fun _ _ _ h => h) (by rfl) (by (intro _w _hSw; (try dsimp only at _hSw); go_simp)) (by assumption) ?_
    simp only [Act.put, List.setIfInBounds_toArray, List.set_cons_zero, List.set_cons_succ]
    refine takeV 17 (some 81) ((.agg #[.int .i64 a.e, .int .i64 a.a, .int .i64 a.k, .int .i64 a.m, .string a.s, .int .i64 a.t, .bool a.add, .int .i64 a.fr, .int .i64 a.til])) rfl rfl (by kernel_rfl) (by kernel_rfl) (by kernel_rfl) (fun _ _ _ h => h) (by rfl) (by (intro _w hSw; have q0 := hSw.1.1.c0; have q1 := hSw.1.1.c1; have q2 := hSw.1.1.c2; have q3 := hSw.1.1.c3; have q4 := hSw.1.1.c4; have q5 := hSw.1.1.c5; have q6 := hSw.1.1.c6; have q7 := hSw.1.1.c7; have q8 := hSw.1.1.c8; clear hSw; go_simp)) (by assumption) ?_
    simp only [Act.put, List.setIfInBounds_toArray, List.set_cons_zero, List.set_cons_succ]
    refine takeV 18 (some 82) ((.agg #[.int .i64 b.e, .int .i64 b.a, .int .i64 b.k, .int .i64 b.m, .string b.s, .int .i64 b.t, .bool b.add, .int .i64 b.fr, .int .i64 b.til])) rfl rfl (by kernel_rfl) (by kernel_rfl) (by kernel_rfl) (fun _ _ _ h => h) (by rfl) (by (intro _w hSw; have q0 := hSw.1.2.c0; have q1 := hSw.1.2.c1; have q2 := hSw.1.2.c2; have q3 := hSw.1.2.c3; have q4 := hSw.1.2.c4; have q5 := hSw.1.2.c5; have q6 := hSw.1.2.c6; have q7 := hSw.1.2.c7; have q8 := hSw.1.2.c8; clear hSw; go_simp)) (by assumption) ?_
    simp only [Act.put, List.setIfInBounds_toArray, List.set_cons_zero, List.set_cons_succ]
    refine callV 15 rfl (by kernel_rfl) (by rfl) (fun K hK => ?_)
    go_simp
    refine (HC1.out _).mono ?_
    rintro e w8 ⟨rfl, hb⟩
    have HB8 := Lib.hid (HBD.out.trans (hb.mono HBD.out.size))
    refine hK.out _ _ (TS.next hHeld hb) (fun hHeld2 => ?_)
    clear hK K hHeld hb
    try simp only [Act.put, List.setIfInBounds_toArray, List.set_cons_zero, List.set_cons_succ]
    refine callV 19 rfl (by kernel_rfl) (by rfl) (fun K hK => ?_)
    go_simp
    refine (HC2.out _).mono ?_
    rintro e w9 ⟨rfl, hb⟩
    have HB9 := Lib.hid (HB8.out.trans (hb.mono HB8.out.size))
    refine hK.out _ _ (TS.next hHeld2 hb) (fun hHeld3 => ?_)
    clear hK K hHeld2 hb
    try simp only [Act.put, List.setIfInBounds_toArray, List.set_cons_zero, List.set_cons_succ]
    refine takeV 20 (some 84) ((.bool true)) rfl rfl (by kernel_rfl) (by kernel_rfl) (by kernel_rfl) (fun _ _ _ h => h) (by rfl) (by (intro _w _hSw; (try dsimp only at _hSw); go_simp)) (by assumption) ?_
    simp only [Act.put, List.setIfInBounds_toArray, List.set_cons_zero, List.set_cons_succ]
    refine takeV 21 (some 85) ((.bool true)) rfl rfl (by kernel_rfl) (by kernel_rfl) (by kernel_rfl) (fun _ _ _ h => h) (by rfl) (by (intro _w _hSw; (try dsimp only at _hSw); go_simp)) (by assumption) ?_
    simp only [Act.put, List.setIfInBounds_toArray, List.set_cons_zero, List.set_cons_succ]
    refine takeV 22 (some 86) ((.bool true)) rfl rfl (by kernel_rfl) (by kernel_rfl) (by kernel_rfl) (fun _ _ _ h => h) (by rfl) (by (intro _w _hSw; (try dsimp only at _hSw); go_simp)) (by assumption) ?_
    simp only [Act.put, List.setIfInBounds_toArray, List.set_cons_zero, List.set_cons_succ]
    refine takeV 23 (some 87) ((.slice X KL.length xc)) rfl rfl (by kernel_rfl) (by kernel_rfl) (by kernel_rfl) (fun _ _ _ h => h) (by rfl) (by (intro _w _hSw; (try dsimp only at _hSw); go_simp)) (by assumption) ?_
    simp only [Act.put, List.setIfInBounds_toArray, List.set_cons_zero, List.set_cons_succ]
    refine takeV 24 (some 88) ((.string S9)) rfl rfl (by kernel_rfl) (by kernel_rfl) (by kernel_rfl) (fun _ _ _ h => h) (by rfl) (by (intro _w hSw; have q := slB_string hSw.2.2.1.1 xc; rw [HS9.out] at q; clear hSw; go_simp)) (by assumption) ?_
    simp only [Act.put, List.setIfInBounds_toArray, List.set_cons_zero, List.set_cons_succ]
    refine takeV 25 (some 89) ((.slice Y KL.length yc)) rfl rfl (by kernel_rfl) (by kernel_rfl) (by kernel_rfl) (fun _ _ _ h => h) (by rfl) (by (intro _w _hSw; (try dsimp only at _hSw); go_simp)) (by assumption) ?_
    simp only [Act.put, List.setIfInBounds_toArray, List.set_cons_zero, List.set_cons_succ]
    refine takeV 26 (some 90) ((.string S9)) rfl rfl (by kernel_rfl) (by kernel_rfl) (by kernel_rfl) (fun _ _ _ h => h) (by rfl) (by (intro _w hSw; have q := slB_string hSw.2.2.1.2 yc; rw [HS9.out] at q; clear hSw; go_simp)) (by assumption) ?_
    simp only [Act.put, List.setIfInBounds_toArray, List.set_cons_zero, List.set_cons_succ]
    refine takeV 27 (some 91) ((.bool true)) rfl rfl (by kernel_rfl) (by kernel_rfl) (by kernel_rfl) (fun _ _ _ h => h) (by rfl) (by (intro _w _hSw; (try dsimp only at _hSw); go_simp)) (by assumption) ?_
    simp only [Act.put, List.setIfInBounds_toArray, List.set_cons_zero, List.set_cons_succ]
    refine takeV 28 (some 92) ((.bool true)) rfl rfl (by kernel_rfl) (by kernel_rfl) (by kernel_rfl) (fun _ _ _ h => h) (by rfl) (by (intro _w _hSw; (try dsimp only at _hSw); go_simp)) (by assumption) ?_
    simp only [Act.put, List.setIfInBounds_toArray, List.set_cons_zero, List.set_cons_succ]
    refine takeV 29 (some 93) ((.bool true)) rfl rfl (by kernel_rfl) (by kernel_rfl) (by kernel_rfl) (fun _ _ _ h => h) (by rfl) (by (intro _w _hSw; (try dsimp only at _hSw); go_simp)) (by assumption) ?_
    simp only [Act.put, List.setIfInBounds_toArray, List.set_cons_zero, List.set_cons_succ]
    refine takeV 30 (some 94) ((.int .i64 KN)) rfl rfl (by kernel_rfl) (by kernel_rfl) (by kernel_rfl) (fun _ _ _ h => h) (by rfl) (by (intro _w _hSw; (try dsimp only at _hSw); go_simp)) (by assumption) ?_
    simp only [Act.put, List.setIfInBounds_toArray, List.set_cons_zero, List.set_cons_succ]
    refine takeV 31 (some 95) ((.int .i64 KN)) rfl rfl (by kernel_rfl) (by kernel_rfl) (by kernel_rfl) (fun _ _ _ h => h) (by rfl) (by (intro _w _hSw; (try dsimp only at _hSw); go_simp)) (by assumption) ?_
    simp only [Act.put, List.setIfInBounds_toArray, List.set_cons_zero, List.set_cons_succ]
    refine takeV 32 (some 96) ((.bool true)) rfl rfl (by kernel_rfl) (by kernel_rfl) (by kernel_rfl) (fun _ _ _ h => h) (by rfl) (by (intro _w _hSw; (try dsimp only at _hSw); go_simp)) (by assumption) ?_
    simp only [Act.put, List.setIfInBounds_toArray, List.set_cons_zero, List.set_cons_succ]
    refine takeV 33 (some 97) ((.bool true)) rfl rfl (by kernel_rfl) (by kernel_rfl) (by kernel_rfl) (fun _ _ _ h => h) (by rfl) (by (intro _w _hSw; (try dsimp only at _hSw); go_simp)) (by assumption) ?_
    simp only [Act.put, List.setIfInBounds_toArray, List.set_cons_zero, List.set_cons_succ]
    refine takeV 34 (some 98) ((.bool true)) rfl rfl (by kernel_rfl) (by kernel_rfl) (by kernel_rfl) (fun _ _ _ h => h) (by rfl) (by (intro _w _hSw; (try dsimp only at _hSw); go_simp)) (by assumption) ?_
    simp only [Act.put, List.setIfInBounds_toArray, List.set_cons_zero, List.set_cons_succ]
    refine takeV 35 (some 99) ((.agg #[.int .i64 R.e, .int .i64 R.a, .int .i64 R.k, .int .i64 R.m, .string R.s, .int .i64 R.t, .bool R.add, .int .i64 R.fr, .int .i64 R.til])) rfl rfl (by kernel_rfl) (by kernel_rfl) (by kernel_rfl) (fun _ _ _ h => h) (by rfl) (by (intro _w hSw; have q0 := hSw.2.1.1.c0; have q1 := hSw.2.1.1.c1; have q2 := hSw.2.1.1.c2; have q3 := hSw.2.1.1.c3; have q4 := hSw.2.1.1.c4; have q5 := hSw.2.1.1.c5; have q6 := hSw.2.1.1.c6; have q7 := hSw.2.1.1.c7; have q8 := hSw.2.1.1.c8; clear hSw; go_simp)) (by assumption) ?_
    simp only [Act.put, List.setIfInBounds_toArray, List.set_cons_zero, List.set_cons_succ]
    refine takeV 36 (some 100) ((.agg #[.int .i64 R.e, .int .i64 R.a, .int .i64 R.k, .int .i64 R.m, .string R.s, .int .i64 R.t, .bool R.add, .int .i64 R.fr, .int .i64 R.til])) rfl rfl (by kernel_rfl) (by kernel_rfl) (by kernel_rfl) (fun _ _ _ h => h) (by rfl) (by (intro _w hSw; have q0 := hSw.2.1.2.c0; have q1 := hSw.2.1.2.c1; have q2 := hSw.2.1.2.c2; have q3 := hSw.2.1.2.c3; have q4 := hSw.2.1.2.c4; have q5 := hSw.2.1.2.c5; have q6 := hSw.2.1.2.c6; have q7 := hSw.2.1.2.c7; have q8 := hSw.2.1.2.c8; clear hSw; go_simp)) (by assumption) ?_
    simp only [Act.put, List.setIfInBounds_toArray, List.set_cons_zero, List.set_cons_succ]
    refine takeV 37 (some 101) ((.bool true)) rfl rfl (by kernel_rfl) (by kernel_rfl) (by kernel_rfl) (fun _ _ _ h => h) (by rfl) (by (intro _w hSw; have q := hed _w; clear hSw; go_simp)) (by assumption) ?_
    simp only [Act.put, List.setIfInBounds_toArray, List.set_cons_zero, List.set_cons_succ]
    refine takeV 38 (some 102) ((.bool true)) rfl rfl (by kernel_rfl) (by kernel_rfl) (by kernel_rfl) (fun _ _ _ h => h) (by rfl) (by (intro _w _hSw; (try dsimp only at _hSw); go_simp)) (by assumption) ?_
    simp only [Act.put, List.setIfInBounds_toArray, List.set_cons_zero, List.set_cons_succ]
    refine takeV 39 (some 103) ((.bool true)) rfl rfl (by kernel_rfl) (by kernel_rfl) (by kernel_rfl) (fun _ _ _ h => h) (by rfl) (by (intro _w _hSw; (try dsimp only at _hSw); go_simp)) (by assumption) ?_
    simp only [Act.put, List.setIfInBounds_toArray, List.set_cons_zero, List.set_cons_succ]
    refine takeV 40 (some 104) ((.int .i64 RN)) rfl rfl (by kernel_rfl) (by kernel_rfl) (by kernel_rfl) (fun _ _ _ h => h) (by rfl) (by (intro _w _hSw; (try dsimp only at _hSw); go_simp)) (by assumption) ?_
    simp only [Act.put, List.setIfInBounds_toArray, List.set_cons_zero, List.set_cons_succ]
    refine takeV 41 (some 105) ((.int .i64 RN)) rfl rfl (by kernel_rfl) (by kernel_rfl) (by kernel_rfl) (fun _ _ _ h => h) (by rfl) (by (intro _w _hSw; (try dsimp only at _hSw); go_simp)) (by assumption) ?_
    simp only [Act.put, List.setIfInBounds_toArray, List.set_cons_zero, List.set_cons_succ]
    refine takeV 42 (some 106) ((.bool true)) rfl rfl (by kernel_rfl) (by kernel_rfl) (by kernel_rfl) (fun _ _ _ h => h) (by rfl) (by (intro _w _hSw; (try dsimp only at _hSw); go_simp)) (by assumption) ?_
    simp only [Act.put, List.setIfInBounds_toArray, List.set_cons_zero, List.set_cons_succ]
    refine takeV 43 (some 107) ((.bool true)) rfl rfl (by kernel_rfl) (by kernel_rfl) (by kernel_rfl) (fun _ _ _ h => h) (by rfl) (by (intro _w _hSw; (try dsimp only at _hSw); go_simp)) (by assumption) ?_
    simp only [Act.put, List.setIfInBounds_toArray, List.set_cons_zero, List.set_cons_succ]
    refine takeV 44 (some 8) ((.bool true)) rfl rfl (by kernel_rfl) (by kernel_rfl) (by kernel_rfl) (fun _ _ _ h => h) (by rfl) (by (intro _w _hSw; (try dsimp only at _hSw); go_simp)) (by assumption) ?_
    simp only [Act.put, List.setIfInBounds_toArray, List.set_cons_zero, List.set_cons_succ]
    refine wpAnyH_done (by kernel_rfl) ?_ _
    go_wp2
    go_ret
    exact ⟨rfl, HB9.out⟩
  · have heN : eN = 0 := by rw [← HEN.out]; rfl
    subst heN
    refine wp_region_held_drew (S := TS w7.heap.size w.heap.size (w.heap.size + 1) w5.heap.size w6.heap.size a b R X Y KL) (by kernel_rfl) (by rw [hwd]; exact HSD.out) (fun hHeld => ?_)
    rw [hwd] at hHeld ⊢
    clear hwd
    refine takeV 0 (some 64) ((.int .i64 0)) rfl rfl (by kernel_rfl) (by kernel_rfl) (by kernel_rfl) (fun _ _ _ h => h) (by rfl) (by (intro _w _hSw; (try dsimp only at _hSw); go_simp)) (by assumption) ?_
    simp only [Act.put, List.setIfInBounds_toArray, List.set_cons_zero, List.set_cons_succ]
    refine takeV 1 (some 65) ((.bool true)) rfl rfl (by kernel_rfl) (by kernel_rfl) (by kernel_rfl) (fun _ _ _ h => h) (by rfl) (by (intro _w _hSw; (try dsimp only at _hSw); go_simp)) (by assumption) ?_
    simp only [Act.put, List.setIfInBounds_toArray, List.set_cons_zero, List.set_cons_succ]
    refine takeV 2 (some 66) ((.bool true)) rfl rfl (by kernel_rfl) (by kernel_rfl) (by kernel_rfl) (fun _ _ _ h => h) (by rfl) (by (intro _w _hSw; (try dsimp only at _hSw); go_simp)) (by assumption) ?_
    simp only [Act.put, List.setIfInBounds_toArray, List.set_cons_zero, List.set_cons_succ]
    refine takeV 3 (some 67) ((.bool true)) rfl rfl (by kernel_rfl) (by kernel_rfl) (by kernel_rfl) (fun _ _ _ h => h) (by rfl) (by (intro _w _hSw; (try dsimp only at _hSw); go_simp)) (by assumption) ?_
    simp only [Act.put, List.setIfInBounds_toArray, List.set_cons_zero, List.set_cons_succ]
    refine takeV 4 (some 68) ((.bool true)) rfl rfl (by kernel_rfl) (by kernel_rfl) (by kernel_rfl) (fun _ _ _ h => h) (by rfl) (by (intro _w _hSw; (try dsimp only at _hSw); go_simp)) (by assumption) ?_
    simp only [Act.put, List.setIfInBounds_toArray, List.set_cons_zero, List.set_cons_succ]
    refine takeV 5 (some 69) ((.bool true)) rfl rfl (by kernel_rfl) (by kernel_rfl) (by kernel_rfl) (fun _ _ _ h => h) (by rfl) (by (intro _w _hSw; (try dsimp only at _hSw); go_simp)) (by assumption) ?_
    simp only [Act.put, List.setIfInBounds_toArray, List.set_cons_zero, List.set_cons_succ]
    refine takeV 6 (some 70) ((.bool true)) rfl rfl (by kernel_rfl) (by kernel_rfl) (by kernel_rfl) (fun _ _ _ h => h) (by rfl) (by (intro _w _hSw; (try dsimp only at _hSw); go_simp)) (by assumption) ?_
    simp only [Act.put, List.setIfInBounds_toArray, List.set_cons_zero, List.set_cons_succ]
    refine skipV 7 (some 71) rfl rfl (by kernel_rfl) (by kernel_rfl) (by kernel_rfl) (fun _ _ _ h => h) (by rfl) (by assumption) ?_
    simp only [Act.put, List.setIfInBounds_toArray, List.set_cons_zero, List.set_cons_succ]
    refine skipV 8 (some 72) rfl rfl (by kernel_rfl) (by kernel_rfl) (by kernel_rfl) (fun _ _ _ h => h) (by rfl) (by assumption) ?_
    simp only [Act.put, List.setIfInBounds_toArray, List.set_cons_zero, List.set_cons_succ]
    refine takeV 9 (some 73) ((.bool true)) rfl rfl (by kernel_rfl) (by kernel_rfl) (by kernel_rfl) (fun _ _ _ h => h) (by rfl) (by (intro _w _hSw; (try dsimp only at _hSw); go_simp)) (by assumption) ?_
    simp only [Act.put, List.setIfInBounds_toArray, List.set_cons_zero, List.set_cons_succ]
    refine takeV 10 (some 74) ((.bool true)) rfl rfl (by kernel_rfl) (by kernel_rfl) (by kernel_rfl) (fun _ _ _ h => h) (by rfl) (by (intro _w _hSw; (try dsimp only at _hSw); go_simp)) (by assumption) ?_
    simp only [Act.put, List.setIfInBounds_toArray, List.set_cons_zero, List.set_cons_succ]
    refine takeV 11 (some 75) ((.bool true)) rfl rfl (by kernel_rfl) (by kernel_rfl) (by kernel_rfl) (fun _ _ _ h => h) (by rfl) (by (intro _w _hSw; (try dsimp only at _hSw); go_simp)) (by assumption) ?_
    simp only [Act.put, List.setIfInBounds_toArray, List.set_cons_zero, List.set_cons_succ]
    refine takeV 12 (some 76) ((.int .i64 o)) rfl rfl (by kernel_rfl) (by kernel_rfl) (by kernel_rfl) (fun _ _ _ h => h) (by rfl) (by (intro _w _hSw; (try dsimp only at _hSw); go_simp)) (by assumption) ?_
    simp only [Act.put, List.setIfInBounds_toArray, List.set_cons_zero, List.set_cons_succ]
    refine takeV 13 (some 77) ((.agg #[.int .i64 a.e, .int .i64 a.a, .int .i64 a.k, .int .i64 a.m, .string a.s, .int .i64 a.t, .bool a.add, .int .i64 a.fr, .int .i64 a.til])) rfl rfl (by kernel_rfl) (by kernel_rfl) (by kernel_rfl) (fun _ _ _ h => h) (by rfl) (by (intro _w hSw; have q0 := hSw.1.1.c0; have q1 := hSw.1.1.c1; have q2 := hSw.1.1.c2; have q3 := hSw.1.1.c3; have q4 := hSw.1.1.c4; have q5 := hSw.1.1.c5; have q6 := hSw.1.1.c6; have q7 := hSw.1.1.c7; have q8 := hSw.1.1.c8; clear hSw; go_simp)) (by assumption) ?_
    simp only [Act.put, List.setIfInBounds_toArray, List.set_cons_zero, List.set_cons_succ]
    refine takeV 14 (some 78) ((.agg #[.int .i64 b.e, .int .i64 b.a, .int .i64 b.k, .int .i64 b.m, .string b.s, .int .i64 b.t, .bool b.add, .int .i64 b.fr, .int .i64 b.til])) rfl rfl (by kernel_rfl) (by kernel_rfl) (by kernel_rfl) (fun _ _ _ h => h) (by rfl) (by (intro _w hSw; have q0 := hSw.1.2.c0; have q1 := hSw.1.2.c1; have q2 := hSw.1.2.c2; have q3 := hSw.1.2.c3; have q4 := hSw.1.2.c4; have q5 := hSw.1.2.c5; have q6 := hSw.1.2.c6; have q7 := hSw.1.2.c7; have q8 := hSw.1.2.c8; clear hSw; go_simp)) (by assumption) ?_
    simp only [Act.put, List.setIfInBounds_toArray, List.set_cons_zero, List.set_cons_succ]
    refine takeV 16 (some 80) ((.int .i64 o)) rfl rfl (by kernel_rfl) (by kernel_rfl) (by kernel_rfl) (fun _ _ _ h => h) (by rfl) (by (intro _w _hSw; (try dsimp only at _hSw); go_simp)) (by assumption) ?_
    simp only [Act.put, List.setIfInBounds_toArray, List.set_cons_zero, List.set_cons_succ]
    refine takeV 17 (some 81) ((.agg #[.int .i64 a.e, .int .i64 a.a, .int .i64 a.k, .int .i64 a.m, .string a.s, .int .i64 a.t, .bool a.add, .int .i64 a.fr, .int .i64 a.til])) rfl rfl (by kernel_rfl) (by kernel_rfl) (by kernel_rfl) (fun _ _ _ h => h) (by rfl) (by (intro _w hSw; have q0 := hSw.1.1.c0; have q1 := hSw.1.1.c1; have q2 := hSw.1.1.c2; have q3 := hSw.1.1.c3; have q4 := hSw.1.1.c4; have q5 := hSw.1.1.c5; have q6 := hSw.1.1.c6; have q7 := hSw.1.1.c7; have q8 := hSw.1.1.c8; clear hSw; go_simp)) (by assumption) ?_
    simp only [Act.put, List.setIfInBounds_toArray, List.set_cons_zero, List.set_cons_succ]
    refine takeV 18 (some 82) ((.agg #[.int .i64 b.e, .int .i64 b.a, .int .i64 b.k, .int .i64 b.m, .string b.s, .int .i64 b.t, .bool b.add, .int .i64 b.fr, .int .i64 b.til])) rfl rfl (by kernel_rfl) (by kernel_rfl) (by kernel_rfl) (fun _ _ _ h => h) (by rfl) (by (intro _w hSw; have q0 := hSw.1.2.c0; have q1 := hSw.1.2.c1; have q2 := hSw.1.2.c2; have q3 := hSw.1.2.c3; have q4 := hSw.1.2.c4; have q5 := hSw.1.2.c5; have q6 := hSw.1.2.c6; have q7 := hSw.1.2.c7; have q8 := hSw.1.2.c8; clear hSw; go_simp)) (by assumption) ?_
    simp only [Act.put, List.setIfInBounds_toArray, List.set_cons_zero, List.set_cons_succ]
    refine callV 15 rfl (by kernel_rfl) (by rfl) (fun K hK => ?_)
    go_simp
    refine (HC1.out _).mono ?_
    rintro e w8 ⟨rfl, hb⟩
    have HB8 := Lib.hid (HBD.out.trans (hb.mono HBD.out.size))
    refine hK.out _ _ (TS.next hHeld hb) (fun hHeld2 => ?_)
    clear hK K hHeld hb
    try simp only [Act.put, List.setIfInBounds_toArray, List.set_cons_zero, List.set_cons_succ]
    refine callV 19 rfl (by kernel_rfl) (by rfl) (fun K hK => ?_)
    go_simp
    refine (HC2.out _).mono ?_
    rintro e w9 ⟨rfl, hb⟩
    have HB9 := Lib.hid (HB8.out.trans (hb.mono HB8.out.size))
    refine hK.out _ _ (TS.next hHeld2 hb) (fun hHeld3 => ?_)
    clear hK K hHeld2 hb
    try simp only [Act.put, List.setIfInBounds_toArray, List.set_cons_zero, List.set_cons_succ]
    refine takeV 20 (some 84) ((.bool true)) rfl rfl (by kernel_rfl) (by kernel_rfl) (by kernel_rfl) (fun _ _ _ h => h) (by rfl) (by (intro _w _hSw; (try dsimp only at _hSw); go_simp)) (by assumption) ?_
    simp only [Act.put, List.setIfInBounds_toArray, List.set_cons_zero, List.set_cons_succ]
    refine takeV 21 (some 85) ((.bool true)) rfl rfl (by kernel_rfl) (by kernel_rfl) (by kernel_rfl) (fun _ _ _ h => h) (by rfl) (by (intro _w _hSw; (try dsimp only at _hSw); go_simp)) (by assumption) ?_
    simp only [Act.put, List.setIfInBounds_toArray, List.set_cons_zero, List.set_cons_succ]
    refine takeV 22 (some 86) ((.bool true)) rfl rfl (by kernel_rfl) (by kernel_rfl) (by kernel_rfl) (fun _ _ _ h => h) (by rfl) (by (intro _w _hSw; (try dsimp only at _hSw); go_simp)) (by assumption) ?_
    simp only [Act.put, List.setIfInBounds_toArray, List.set_cons_zero, List.set_cons_succ]
    refine takeV 23 (some 87) ((.slice X KL.length xc)) rfl rfl (by kernel_rfl) (by kernel_rfl) (by kernel_rfl) (fun _ _ _ h => h) (by rfl) (by (intro _w _hSw; (try dsimp only at _hSw); go_simp)) (by assumption) ?_
    simp only [Act.put, List.setIfInBounds_toArray, List.set_cons_zero, List.set_cons_succ]
    refine takeV 24 (some 88) ((.string S9)) rfl rfl (by kernel_rfl) (by kernel_rfl) (by kernel_rfl) (fun _ _ _ h => h) (by rfl) (by (intro _w hSw; have q := slB_string hSw.2.2.1.1 xc; rw [HS9.out] at q; clear hSw; go_simp)) (by assumption) ?_
    simp only [Act.put, List.setIfInBounds_toArray, List.set_cons_zero, List.set_cons_succ]
    refine takeV 25 (some 89) ((.slice Y KL.length yc)) rfl rfl (by kernel_rfl) (by kernel_rfl) (by kernel_rfl) (fun _ _ _ h => h) (by rfl) (by (intro _w _hSw; (try dsimp only at _hSw); go_simp)) (by assumption) ?_
    simp only [Act.put, List.setIfInBounds_toArray, List.set_cons_zero, List.set_cons_succ]
    refine takeV 26 (some 90) ((.string S9)) rfl rfl (by kernel_rfl) (by kernel_rfl) (by kernel_rfl) (fun _ _ _ h => h) (by rfl) (by (intro _w hSw; have q := slB_string hSw.2.2.1.2 yc; rw [HS9.out] at q; clear hSw; go_simp)) (by assumption) ?_
    simp only [Act.put, List.setIfInBounds_toArray, List.set_cons_zero, List.set_cons_succ]
    refine takeV 27 (some 91) ((.bool true)) rfl rfl (by kernel_rfl) (by kernel_rfl) (by kernel_rfl) (fun _ _ _ h => h) (by rfl) (by (intro _w _hSw; (try dsimp only at _hSw); go_simp)) (by assumption) ?_
    simp only [Act.put, List.setIfInBounds_toArray, List.set_cons_zero, List.set_cons_succ]
    refine takeV 28 (some 92) ((.bool true)) rfl rfl (by kernel_rfl) (by kernel_rfl) (by kernel_rfl) (fun _ _ _ h => h) (by rfl) (by (intro _w _hSw; (try dsimp only at _hSw); go_simp)) (by assumption) ?_
    simp only [Act.put, List.setIfInBounds_toArray, List.set_cons_zero, List.set_cons_succ]
    refine takeV 29 (some 93) ((.bool true)) rfl rfl (by kernel_rfl) (by kernel_rfl) (by kernel_rfl) (fun _ _ _ h => h) (by rfl) (by (intro _w _hSw; (try dsimp only at _hSw); go_simp)) (by assumption) ?_
    simp only [Act.put, List.setIfInBounds_toArray, List.set_cons_zero, List.set_cons_succ]
    refine takeV 30 (some 94) ((.int .i64 KN)) rfl rfl (by kernel_rfl) (by kernel_rfl) (by kernel_rfl) (fun _ _ _ h => h) (by rfl) (by (intro _w _hSw; (try dsimp only at _hSw); go_simp)) (by assumption) ?_
    simp only [Act.put, List.setIfInBounds_toArray, List.set_cons_zero, List.set_cons_succ]
    refine takeV 31 (some 95) ((.int .i64 KN)) rfl rfl (by kernel_rfl) (by kernel_rfl) (by kernel_rfl) (fun _ _ _ h => h) (by rfl) (by (intro _w _hSw; (try dsimp only at _hSw); go_simp)) (by assumption) ?_
    simp only [Act.put, List.setIfInBounds_toArray, List.set_cons_zero, List.set_cons_succ]
    refine takeV 32 (some 96) ((.bool true)) rfl rfl (by kernel_rfl) (by kernel_rfl) (by kernel_rfl) (fun _ _ _ h => h) (by rfl) (by (intro _w _hSw; (try dsimp only at _hSw); go_simp)) (by assumption) ?_
    simp only [Act.put, List.setIfInBounds_toArray, List.set_cons_zero, List.set_cons_succ]
    refine takeV 33 (some 97) ((.bool true)) rfl rfl (by kernel_rfl) (by kernel_rfl) (by kernel_rfl) (fun _ _ _ h => h) (by rfl) (by (intro _w _hSw; (try dsimp only at _hSw); go_simp)) (by assumption) ?_
    simp only [Act.put, List.setIfInBounds_toArray, List.set_cons_zero, List.set_cons_succ]
    refine takeV 34 (some 98) ((.bool true)) rfl rfl (by kernel_rfl) (by kernel_rfl) (by kernel_rfl) (fun _ _ _ h => h) (by rfl) (by (intro _w _hSw; (try dsimp only at _hSw); go_simp)) (by assumption) ?_
    simp only [Act.put, List.setIfInBounds_toArray, List.set_cons_zero, List.set_cons_succ]
    refine takeV 35 (some 99) ((.agg #[.int .i64 R.e, .int .i64 R.a, .int .i64 R.k, .int .i64 R.m, .string R.s, .int .i64 R.t, .bool R.add, .int .i64 R.fr, .int .i64 R.til])) rfl rfl (by kernel_rfl) (by kernel_rfl) (by kernel_rfl) (fun _ _ _ h => h) (by rfl) (by (intro _w hSw; have q0 := hSw.2.1.1.c0; have q1 := hSw.2.1.1.c1; have q2 := hSw.2.1.1.c2; have q3 := hSw.2.1.1.c3; have q4 := hSw.2.1.1.c4; have q5 := hSw.2.1.1.c5; have q6 := hSw.2.1.1.c6; have q7 := hSw.2.1.1.c7; have q8 := hSw.2.1.1.c8; clear hSw; go_simp)) (by assumption) ?_
    simp only [Act.put, List.setIfInBounds_toArray, List.set_cons_zero, List.set_cons_succ]
    refine takeV 36 (some 100) ((.agg #[.int .i64 R.e, .int .i64 R.a, .int .i64 R.k, .int .i64 R.m, .string R.s, .int .i64 R.t, .bool R.add, .int .i64 R.fr, .int .i64 R.til])) rfl rfl (by kernel_rfl) (by kernel_rfl) (by kernel_rfl) (fun _ _ _ h => h) (by rfl) (by (intro _w hSw; have q0 := hSw.2.1.2.c0; have q1 := hSw.2.1.2.c1; have q2 := hSw.2.1.2.c2; have q3 := hSw.2.1.2.c3; have q4 := hSw.2.1.2.c4; have q5 := hSw.2.1.2.c5; have q6 := hSw.2.1.2.c6; have q7 := hSw.2.1.2.c7; have q8 := hSw.2.1.2.c8; clear hSw; go_simp)) (by assumption) ?_
    simp only [Act.put, List.setIfInBounds_toArray, List.set_cons_zero, List.set_cons_succ]
    refine takeV 37 (some 101) ((.bool true)) rfl rfl (by kernel_rfl) (by kernel_rfl) (by kernel_rfl) (fun _ _ _ h => h) (by rfl) (by (intro _w hSw; have q := hed _w; clear hSw; go_simp)) (by assumption) ?_
    simp only [Act.put, List.setIfInBounds_toArray, List.set_cons_zero, List.set_cons_succ]
    refine takeV 38 (some 102) ((.bool true)) rfl rfl (by kernel_rfl) (by kernel_rfl) (by kernel_rfl) (fun _ _ _ h => h) (by rfl) (by (intro _w _hSw; (try dsimp only at _hSw); go_simp)) (by assumption) ?_
    simp only [Act.put, List.setIfInBounds_toArray, List.set_cons_zero, List.set_cons_succ]
    refine takeV 39 (some 103) ((.bool true)) rfl rfl (by kernel_rfl) (by kernel_rfl) (by kernel_rfl) (fun _ _ _ h => h) (by rfl) (by (intro _w _hSw; (try dsimp only at _hSw); go_simp)) (by assumption) ?_
    simp only [Act.put, List.setIfInBounds_toArray, List.set_cons_zero, List.set_cons_succ]
    refine takeV 40 (some 104) ((.int .i64 RN)) rfl rfl (by kernel_rfl) (by kernel_rfl) (by kernel_rfl) (fun _ _ _ h => h) (by rfl) (by (intro _w _hSw; (try dsimp only at _hSw); go_simp)) (by assumption) ?_
    simp only [Act.put, List.setIfInBounds_toArray, List.set_cons_zero, List.set_cons_succ]
    refine takeV 41 (some 105) ((.int .i64 RN)) rfl rfl (by kernel_rfl) (by kernel_rfl) (by kernel_rfl) (fun _ _ _ h => h) (by rfl) (by (intro _w _hSw; (try dsimp only at _hSw); go_simp)) (by assumption) ?_
    simp only [Act.put, List.setIfInBounds_toArray, List.set_cons_zero, List.set_cons_succ]
    refine takeV 42 (some 106) ((.bool true)) rfl rfl (by kernel_rfl) (by kernel_rfl) (by kernel_rfl) (fun _ _ _ h => h) (by rfl) (by (intro _w _hSw; (try dsimp only at _hSw); go_simp)) (by assumption) ?_
    simp only [Act.put, List.setIfInBounds_toArray, List.set_cons_zero, List.set_cons_succ]
    refine takeV 43 (some 107) ((.bool true)) rfl rfl (by kernel_rfl) (by kernel_rfl) (by kernel_rfl) (fun _ _ _ h => h) (by rfl) (by (intro _w _hSw; (try dsimp only at _hSw); go_simp)) (by assumption) ?_
    simp only [Act.put, List.setIfInBounds_toArray, List.set_cons_zero, List.set_cons_succ]
    refine takeV 44 (some 8) ((.bool true)) rfl rfl (by kernel_rfl) (by kernel_rfl) (by kernel_rfl) (fun _ _ _ h => h) (by rfl) (by (intro _w _hSw; (try dsimp only at _hSw); go_simp)) (by assumption) ?_
    simp only [Act.put, List.setIfInBounds_toArray, List.set_cons_zero, List.set_cons_succ]
    refine wpAnyH_done (by kernel_rfl) ?_ _
    go_wp2
    go_ret
    exact ⟨rfl, HB9.out⟩
end Go.Proofs.Ytefekkcmoambhaa
