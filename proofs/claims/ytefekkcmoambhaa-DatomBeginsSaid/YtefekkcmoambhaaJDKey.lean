import Derived.Laws.StructEq
import Derived.Test.YtefekkcmoambhaaJDPure
import Derived.Test.YtefekkcmoambhaaJOPartArgs
import Derived.Test.YtefekkcmoambhaaJORefRd
import Derived.Test.YtefekkcmoambhaaJDRefP
import Derived.Test.YtefekkcmoambhaaJORefC
import Derived.Test.YtefekkcmoambhaaJORefK
import Derived.WalkMore
import Derived.Test.YtefekkcmoambhaaJDCmp
/-
  CONTRACT: Same (of two lists of parts that are equal); an own row of parts reads as parts.
-/
namespace Go.Proofs.Ytefekkcmoambhaa
open Go.RowKit Go.Shelf

theorem flatK {α : Type} (f : α → List Value) (k : Nat) (hk : ∀ x, (f x).length = k) : ∀ (l : List α) (j i : Nat), i < k → (l.flatMap f)[j * k + i]? = l[j]?.bind fun x => (f x)[i]?
  | [], j, i, _ => by simp
  | x :: l, 0, i, hi => by
    rw [List.flatMap_cons, List.getElem?_append_left (by rw [hk]; omega)]
    simp
  | x :: l, j + 1, i, hi => by
    have e : (j + 1) * k + i = k + (j * k + i) := by rw [Nat.succ_mul]; omega
    rw [List.flatMap_cons, e, List.getElem?_append_right (by rw [hk]; omega), hk, Nat.add_sub_cancel_left, flatK f k hk l j i hi]
    simp
theorem OwnP.slp {W : World} {B : Nat} {v : Value} {l : List PartP} (h : OwnP W B v l) : ∃ A c, v = .slice A l.length c ∧ SlP W W.heap.size A l := by
  rcases h.2 with ⟨rfl, h0⟩ | ⟨g, cap, cur, rfl, _, hgb, _⟩
  · exact ⟨none, 0, by rw [h0], fun hl => absurd (List.length_eq_zero_iff.1 h0) hl⟩
  · refine ⟨_, _, rfl, fun _ => ⟨g, 0, rfl, (Array.getElem?_eq_some_iff.1 hgb).1, fun j p hp => ?_⟩⟩
    have hr : W.ownsRow B 58 5 (.slice (some ⟨g, 0, none⟩) l.length cap) l.length (l.flatMap cellsP) := h
    have hj : j < l.length := (List.getElem?_eq_some_iff.1 hp).1
    have hc : ∀ i, i < 5 → W.cell? ⟨g, j * 5 + i, none⟩ = (cellsP p)[i]? := fun i hi => by
      rw [hr.cellAt (j * 5 + i) (by omega), flatK cellsP 5 (fun _ => rfl) l j i hi, hp]; rfl
    rw [Nat.zero_add]
    exact ⟨hc 0 (by omega), hc 1 (by omega), hc 2 (by omega), hc 3 (by omega), hc 4 (by omega)⟩

def aggP (p : PartP) : Value := .agg #[.bool p.v, .int .i64 p.n, .int .i64 p.k, .int .i64 p.m, .string p.s]
theorem eqP (p : PartP) (w : World) : (binOp .neq 58 (.agg #[.bool p.v, .int .i64 p.n, .int .i64 p.k, .int .i64 p.m, .string p.s]) (.agg #[.bool p.v, .int .i64 p.n, .int .i64 p.k, .int .i64 p.m, .string p.s])).run Try.prog w = .ok (.bool false) w := by
  have u4 := Try.underlying4
  have u3 := Try.underlying3
  have u2 := Try.underlying2
  have u9 := Try.underlying9
  have a4 := Try.isAgg4
  have a3 := Try.isAgg3
  have a2 := Try.isAgg2
  have a9 := Try.isAgg9
  have aV := Try.isAgg24
  have hS : Try.prog.underlying 58 = some (.struct (Try.prog.fieldsOf 58)) := by kernel_rfl
  have hp : Try.prog.stoodInHeld 58 = false := by kernel_rfl
  have hS' : Try.prog.underlying 24 = some (.struct (Try.prog.fieldsOf 24)) := by kernel_rfl
  have hp' : Try.prog.stoodInHeld 24 = false := by kernel_rfl
  have hV : ∀ w, (Op.equalIn 9999 24 (.agg #[.int .i64 p.k, .int .i64 p.m, .string p.s]) (.agg #[.int .i64 p.k, .int .i64 p.m, .string p.s])).run Try.prog w = .ok true w := fun w => by
    rw [show (9999 : Nat) = 9998 + 1 from rfl, run_equalIn_agg w 9998 24 _ _ hS' hp']
    simp only [Program.fieldsOf, Try.underlying24]
    go_simp
  rw [run_neq_struct, show (10000 : Nat) = 9999 + 1 from rfl, run_equalIn_agg w 9999 58 _ _ hS hp]
  simp only [Program.fieldsOf, Try.underlying58]
  go_simp

end Go.Proofs.Ytefekkcmoambhaa

/-
  THE LAW OrderReads: its walk.
-/
namespace Go.Proofs.Ytefekkcmoambhaa
open Go.RowKit Go.Shelf

def readN (ks : List Bool) (b : List UInt8) : Int := if (readL ks b).isSome then 0 else 20
theorem readEnd_form {W w' : World} {ks : List Bool} {b : List UInt8} {e : Ending} (h : ReadEnd W ks b e w') : ∃ (A : Option Addr) (c : Nat), e = .returned (.tuple #[.slice A ((readL ks b).getD []).length c, .int .i64 (readN ks b)]) ∧ SlP w' w'.heap.size A ((readL ks b).getD []) ∧ Below W.heap.size W w' := by
  obtain ⟨⟨ps, v, h, rfl, ho⟩ | ⟨h, rfl⟩, hb⟩ := h
  · obtain ⟨A, c, rfl, hs⟩ := ho.slp
    unfold readN
    rw [h]
    exact ⟨A, c, rfl, hs, hb⟩
  · unfold readN
    rw [h]
    exact ⟨none, 0, rfl, fun h => absurd rfl h, hb⟩
theorem readL_len {ks : List Bool} {b : List UInt8} : ((readL ks b).getD []).length ≤ ks.length := by
  unfold readL
  split
  · have := tellL_len ks b
    simpa using this
  · simp

theorem SlK.more {W : World} {B B' : Nat} {A : Option Addr} {l : List Bool} (h : SlK W B A l) (hB : B ≤ B') : SlK W B' A l := fun hl => by
  obtain ⟨a, e, hlt, hc⟩ := h hl
  exact ⟨a, e, by omega, hc⟩
theorem ownB_cap {W : World} {B : Nat} {A : Option Addr} {n c : Nat} {l : List UInt8} (h : OwnB W B (.slice A n c) l) : l.length ≤ c ∧ c ≤ maxLen := by
  rcases h.2 with ⟨e, h0⟩ | ⟨g, cap, cur, e, _, _, h1, h2, _⟩
  · injection e with _ _ e
    subst e
    exact ⟨by omega, Nat.zero_le _⟩
  · injection e with _ _ e
    subst e
    exact ⟨h1, h2⟩

end Go.Proofs.Ytefekkcmoambhaa

/-
  CONTRACTS of the document's own answer over datoms: entity, May, Has, Compare, Key.
-/
namespace Go.Proofs.Ytefekkcmoambhaa
open Go.RowKit

set_option maxHeartbeats 400000 in
theorem rEnt_is (v : Bool) (n : Int) (w : World) (h : entB n = v) : Calls Try.prog 67 #[.int .i64 n] w fun e w' => e = .returned (.bool v) ∧ w = w' := by
  subst h
  by_cases h0 : 0 ≤ n
  · by_cases h1 : n < 9007199254740992
    · have e : Hid (entB n = true) := by show _ = _; unfold entB; simp [h0, h1]
      go_enter Try.func67, Try.ntmps67
      go_wp2
      go_ret
      exact ⟨by rw [e.out]; rfl, rfl⟩
    · have e : Hid (entB n = false) := by show _ = _; unfold entB; simp; omega
      go_enter Try.func67, Try.ntmps67
      go_wp2
      go_ret
      exact ⟨by rw [e.out]; rfl, rfl⟩
  · have e : Hid (entB n = false) := by show _ = _; unfold entB; simp; omega
    have h0' : decide (0 ≤ n) = false := decide_eq_false h0
    go_enter Try.func67, Try.ntmps67
    go_wp2
    go_ret
    exact ⟨by rw [e.out]; rfl, rfl⟩

set_option maxRecDepth 100000 in
set_option maxHeartbeats 2000000 in
theorem rMay_any (d : Dat) (w : World) (hs : d.s.size ≤ maxLen) : Calls Try.prog 28 #[.agg #[.int .i64 d.e, .int .i64 d.a, .int .i64 d.k, .int .i64 d.m, .string d.s, .int .i64 d.t, .bool d.add, .int .i64 d.fr, .int .i64 d.til]] w fun e w' => e = .returned (.bool (mayD d)) ∧ Below w.heap.size w w' := by
  have HB0 : Hid (Below w.heap.size w (w.alloc (.cells #[.int .i64 d.e, .int .i64 d.a, .int .i64 d.k, .int .i64 d.m, .string d.s, .int .i64 d.t, .bool d.add, .int .i64 d.fr, .int .i64 d.til] 42))) := (Below.refl _ _).alloc (Nat.le_refl _) _
  have HDA := Lib.hid (datAt_new w d)
  have HM : Hid (mayD d = (entB d.e && entB d.a && mayB d.k d.m d.s && txB d.t && decide (d.fr < d.til))) := rfl
  obtain ⟨b1, h1⟩ : ∃ b, entB d.e = b := ⟨_, rfl⟩
  obtain ⟨b2, h2⟩ : ∃ b, entB d.a = b := ⟨_, rfl⟩
  obtain ⟨b3, h3⟩ : ∃ b, mayB d.k d.m d.s = b := ⟨_, rfl⟩
  rw [h1, h2, h3] at HM
  have H1 := Lib.hid h1
  have H2 := Lib.hid h2
  have H3 := Lib.hid h3
  clear h1 h2 h3
  go_enter Try.func28, Try.ntmps28
  go_wp2_with fail
  refine (rEnt_is b1 d.e _ H1.out).mono ?_
  rintro e w1 ⟨rfl, rfl⟩
  cases b1
  · have HF : Hid (mayD d = false) := HM.out
    go_wp2
    go_ret
    exact ⟨by rw [HF.out]; rfl, HB0.out⟩
  go_wp2_with fail
  refine (rEnt_is b2 d.a _ H2.out).mono ?_
  rintro e w1 ⟨rfl, rfl⟩
  cases b2
  · have HF : Hid (mayD d = false) := HM.out
    go_wp2
    go_ret
    exact ⟨by rw [HF.out]; rfl, HB0.out⟩
  go_wp2_with fail
  refine (refMay_is (m := b3) _ hs H3.out).mono ?_
  rintro e w1 ⟨rfl, hb⟩
  have HB1 := Lib.hid (HB0.out.trans (hb.mono HB0.out.size))
  have hx := HDA.out.next hb (by simp)
  have c5 := hx.c5
  have c7 := hx.c7
  have c8 := hx.c8
  clear hb hx
  cases b3
  · have HF : Hid (mayD d = false) := HM.out
    go_wp2
    go_ret
    exact ⟨by rw [HF.out]; rfl, HB1.out⟩
  by_cases t1 : 1 ≤ d.t
  · by_cases t2 : d.t ≤ 1099511627776
    · have HT : Hid (txB d.t = true) := by show _ = _; unfold txB; simp [t1, t2]
      by_cases t3 : d.fr < d.til
      · have HF : Hid (mayD d = true) := by show _ = _; rw [HM.out, HT.out, decide_eq_true t3]; rfl
        go_wp2
        go_ret
        exact ⟨by rw [HF.out]; rfl, HB1.out⟩
      · have HF : Hid (mayD d = false) := by show _ = _; rw [HM.out, HT.out, decide_eq_false t3]; rfl
        have t3' : decide (d.fr < d.til) = false := decide_eq_false t3
        go_wp2
        go_ret
        exact ⟨by rw [HF.out]; rfl, HB1.out⟩
    · have HT : Hid (txB d.t = false) := by show _ = _; unfold txB; simp; omega
      have HF : Hid (mayD d = false) := by show _ = _; rw [HM.out, HT.out]; rfl
      have t2' : decide (d.t ≤ 1099511627776) = false := decide_eq_false t2
      go_wp2
      go_ret
      exact ⟨by rw [HF.out]; rfl, HB1.out⟩
  · have HT : Hid (txB d.t = false) := by show _ = _; unfold txB; simp; omega
    have HF : Hid (mayD d = false) := by show _ = _; rw [HM.out, HT.out]; rfl
    have t1' : decide (1 ≤ d.t) = false := decide_eq_false t1
    go_wp2
    go_ret
    exact ⟨by rw [HF.out]; rfl, HB1.out⟩

set_option maxRecDepth 100000 in
set_option maxHeartbeats 1000000 in
theorem rHas_any (o : Int) (d : Dat) (w : World) : Calls Try.prog 74 #[.int .i64 o, .agg #[.int .i64 d.e, .int .i64 d.a, .int .i64 d.k, .int .i64 d.m, .string d.s, .int .i64 d.t, .bool d.add, .int .i64 d.fr, .int .i64 d.til]] w fun e w' => e = .returned (.bool (hasD o d)) ∧ Below w.heap.size w w' := by
  by_cases h1 : 1 ≤ o
  · by_cases h3 : o ≤ 3
    · have HE : Hid (hasD o d = true) := by show _ = _; unfold hasD; rw [decide_eq_true_eq]; exact .inl ⟨h1, h3⟩
      go_enter Try.func74, Try.ntmps74
      go_wp2
      go_ret
      exact ⟨by rw [HE.out]; rfl, (Below.refl _ _).alloc (Nat.le_refl _) _⟩
    · have h3' : decide (o ≤ 3) = false := decide_eq_false h3
      by_cases h4 : o = 4
      · subst h4
        by_cases hk : d.k = 5
        · have HE : Hid (hasD 4 d = true) := by show _ = _; unfold hasD; simp [hk]
          have hkq : (d.k == 5) = true := by rw [hk]; rfl
          clear hk
          go_enter Try.func74, Try.ntmps74
          go_wp2
          go_ret
          exact ⟨by rw [HE.out]; rfl, (Below.refl _ _).alloc (Nat.le_refl _) _⟩
        · have HE : Hid (hasD 4 d = false) := by show _ = _; unfold hasD; simp [hk]
          have hkq : (d.k == 5) = false := by simpa using hk
          clear hk
          go_enter Try.func74, Try.ntmps74
          go_wp2
          go_ret
          exact ⟨by rw [HE.out]; rfl, (Below.refl _ _).alloc (Nat.le_refl _) _⟩
      · have HE : Hid (hasD o d = false) := by show _ = _; unfold hasD; rw [decide_eq_false_iff_not]; omega
        have h4' : (o == 4) = false := beq_eq_false_iff_ne.2 h4
        clear h4
        go_enter Try.func74, Try.ntmps74
        go_wp2
        go_ret
        exact ⟨by rw [HE.out]; rfl, (Below.refl _ _).alloc (Nat.le_refl _) _⟩
  · have HE : Hid (hasD o d = false) := by show _ = _; unfold hasD; rw [decide_eq_false_iff_not]; omega
    have h1' : decide (1 ≤ o) = false := decide_eq_false h1
    have h4' : (o == 4) = false := beq_eq_false_iff_ne.2 (by omega)
    go_enter Try.func74, Try.ntmps74
    go_wp2
    go_ret
    exact ⟨by rw [HE.out]; rfl, (Below.refl _ _).alloc (Nat.le_refl _) _⟩

/-- is it no order? in the walk's words -/
theorem noO {o : Int} (h : isO o = false) : o < 1 ∨ (1 ≤ o ∧ 4 < o) := by
  unfold isO at h
  rw [decide_eq_false_iff_not] at h
  omega
theorem yesO {o : Int} (h : isO o = true) : 1 ≤ o ∧ o ≤ 4 := by
  unfold isO at h
  rw [decide_eq_true_eq] at h
  exact h
set_option maxRecDepth 100000 in
set_option maxHeartbeats 1000000 in
theorem rCmp_any (o : Int) (a b : Dat) (w : World) (hza : a.s.size ≤ 50000) (hzb : b.s.size ≤ 50000) : Calls Try.prog 35 #[.int .i64 o, .agg #[.int .i64 a.e, .int .i64 a.a, .int .i64 a.k, .int .i64 a.m, .string a.s, .int .i64 a.t, .bool a.add, .int .i64 a.fr, .int .i64 a.til], .agg #[.int .i64 b.e, .int .i64 b.a, .int .i64 b.k, .int .i64 b.m, .string b.s, .int .i64 b.t, .bool b.add, .int .i64 b.fr, .int .i64 b.til]] w fun e w' => e = .returned (.int .i64 (ordD o a b)) ∧ Below w.heap.size w w' := by
  cases ho : isO o
  · have HE : Hid (ordD o a b = 0) := by show _ = _; unfold ordD; rw [ho]; rfl
    rcases noO ho with h | ⟨h, h'⟩
    · clear ho
      go_enter Try.func35, Try.ntmps35
      go_wp2
      go_ret
      exact ⟨by rw [HE.out]; rfl, ((Below.refl _ _).alloc (Nat.le_refl _) _).alloc (by simp) _⟩
    · clear ho
      go_enter Try.func35, Try.ntmps35
      go_wp2
      go_ret
      exact ⟨by rw [HE.out]; rfl, ((Below.refl _ _).alloc (Nat.le_refl _) _).alloc (by simp) _⟩
  · have HE : Hid (ordD o a b = ordK (partsD o a) (partsD o b)) := by show _ = _; unfold ordD; rw [if_pos ho]
    obtain ⟨h, h'⟩ := yesO ho
    have HO := Lib.hid ho
    have HB0 : Hid (Below w.heap.size w ((w.alloc (.cells #[.int .i64 a.e, .int .i64 a.a, .int .i64 a.k, .int .i64 a.m, .string a.s, .int .i64 a.t, .bool a.add, .int .i64 a.fr, .int .i64 a.til] 42)).alloc (.cells #[.int .i64 b.e, .int .i64 b.a, .int .i64 b.k, .int .i64 b.m, .string b.s, .int .i64 b.t, .bool b.add, .int .i64 b.fr, .int .i64 b.til] 42))) := ((Below.refl _ _).alloc (Nat.le_refl _) _).alloc (by simp) _
    have HDB : Hid (DatAt ((w.alloc (.cells #[.int .i64 a.e, .int .i64 a.a, .int .i64 a.k, .int .i64 a.m, .string a.s, .int .i64 a.t, .bool a.add, .int .i64 a.fr, .int .i64 a.til] 42)).alloc (.cells #[.int .i64 b.e, .int .i64 b.a, .int .i64 b.k, .int .i64 b.m, .string b.s, .int .i64 b.t, .bool b.add, .int .i64 b.fr, .int .i64 b.til] 42)) (w.heap.size + 1) b) := by
      have := datAt_new (w.alloc (.cells #[.int .i64 a.e, .int .i64 a.a, .int .i64 a.k, .int .i64 a.m, .string a.s, .int .i64 a.t, .bool a.add, .int .i64 a.fr, .int .i64 a.til] 42)) b
      rwa [World.size_alloc] at this
    clear ho
    go_enter Try.func35, Try.ntmps35
    go_wp2_with fail
    refine (refParts_any o a _ HO.out).mono ?_
    rintro e w1 ⟨v, rfl, ho1, hb⟩
    obtain ⟨A1, c1, rfl, hs1⟩ := ho1.slp
    have HB1 := Lib.hid (HB0.out.trans (hb.mono HB0.out.size))
    have hx := HDB.out.next hb (by simp)
    have c0 := hx.c0
    have c1' := hx.c1
    have c2 := hx.c2
    have c3 := hx.c3
    have c4 := hx.c4
    have c5 := hx.c5
    have c6 := hx.c6
    have c7 := hx.c7
    have c8 := hx.c8
    have HS1 := Lib.hid hs1
    clear hb hx ho1 hs1
    go_wp2_with fail
    refine (refParts_any o b _ HO.out).mono ?_
    rintro e w2 ⟨v, rfl, ho2, hb⟩
    obtain ⟨A2, c9, rfl, hs2⟩ := ho2.slp
    have HB2 := Lib.hid (HB1.out.trans (hb.mono HB1.out.size))
    have HS1' := Lib.hid ((HS1.out.next hb (Nat.le_refl _)).more hb.size)
    have HS2 := Lib.hid hs2
    clear hb ho2 hs2 HS1 c0 c1' c2 c3 c4 c5 c6 c7 c8
    go_wp2_with fail
    refine (refCmp_any A1 A2 c1 c9 (partsD o a) (partsD o b) _ _ HS1'.out HS2.out (Nat.le_refl _) (by rw [partsD_len]; omega) (by rw [partsD_len]; omega) (fun p hp => Nat.le_trans (partsD_size p hp) hza) (fun p hp => Nat.le_trans (partsD_size p hp) hzb)).mono ?_
    rintro e w3 ⟨rfl, hb⟩
    have HB3 := Lib.hid (HB2.out.trans (hb.mono HB2.out.size))
    clear hb
    go_wp2
    go_ret
    exact ⟨by rw [HE.out]; rfl, HB3.out⟩

/-- What Key answers. -/
def DKeyEnd (W : World) (o : Int) (d : Dat) (e : Ending) (w' : World) : Prop :=
  ((isO o = false ∧ e = .returned (.tuple #[.slice none 0 0, .int .i64 2])) ∨ (isO o = true ∧ fitD o d = false ∧ e = .returned (.tuple #[.slice none 0 0, .int .i64 40])) ∨ (fitD o d = true ∧ ∃ v, e = .returned (.tuple #[v, .int .i64 0]) ∧ OwnB w' W.heap.size v (keyD o d))) ∧ Below W.heap.size W w'
set_option maxRecDepth 100000 in
set_option maxHeartbeats 1000000 in
theorem rKey_any (o : Int) (d : Dat) (w : World) (hs : d.s.size ≤ 4000) (hok : DatOk d) : Calls Try.prog 31 #[.int .i64 o, .agg #[.int .i64 d.e, .int .i64 d.a, .int .i64 d.k, .int .i64 d.m, .string d.s, .int .i64 d.t, .bool d.add, .int .i64 d.fr, .int .i64 d.til]] w (DKeyEnd w o d) := by
  have hmx : 50000 ≤ maxLen := by decide
  have HB0 : Hid (Below w.heap.size w (w.alloc (.cells #[.int .i64 d.e, .int .i64 d.a, .int .i64 d.k, .int .i64 d.m, .string d.s, .int .i64 d.t, .bool d.add, .int .i64 d.fr, .int .i64 d.til] 42))) := (Below.refl _ _).alloc (Nat.le_refl _) _
  have HDA := Lib.hid (datAt_new w d)
  cases ho : isO o
  · have HO := Lib.hid ho
    rcases noO ho with h | ⟨h, h'⟩
    · clear ho
      go_enter Try.func31, Try.ntmps31
      go_wp2
      go_ret2
      exact ⟨.inl ⟨HO.out, rfl⟩, HB0.out⟩
    · clear ho
      go_enter Try.func31, Try.ntmps31
      go_wp2
      go_ret2
      exact ⟨.inl ⟨HO.out, rfl⟩, HB0.out⟩
  · obtain ⟨h, h'⟩ := yesO ho
    have HO := Lib.hid ho
    have HFT : Hid (fitD o d = (mayD d && hasD o d)) := rfl
    have hm := fun X => rMay_any d X (by omega)
    have hh := fun X => rHas_any o d X
    obtain ⟨b1, h1⟩ : ∃ b, mayD d = b := ⟨_, rfl⟩
    obtain ⟨b2, h2⟩ : ∃ b, hasD o d = b := ⟨_, rfl⟩
    rw [h1] at hm
    rw [h2] at hh
    rw [h1, h2] at HFT
    have HM := Lib.hid hm
    have HH := Lib.hid hh
    have H1 := Lib.hid h1
    clear ho hm hh h1 h2
    go_enter Try.func31, Try.ntmps31
    go_wp2_with fail
    refine (HM.out _).mono ?_
    rintro e w1 ⟨rfl, hb⟩
    have HB1 := Lib.hid (HB0.out.trans (hb.mono HB0.out.size))
    have HD1 := Lib.hid (HDA.out.next hb (by simp))
    have c0 := HD1.out.c0
    have c1 := HD1.out.c1
    have c2 := HD1.out.c2
    have c3 := HD1.out.c3
    have c4 := HD1.out.c4
    have c5 := HD1.out.c5
    have c6 := HD1.out.c6
    have c7 := HD1.out.c7
    have c8 := HD1.out.c8
    clear hb
    cases b1
    · have HF : Hid (fitD o d = false) := HFT.out
      go_wp2
      go_ret2
      exact ⟨.inr (.inl ⟨HO.out, HF.out, rfl⟩), HB1.out⟩
    go_wp2_with fail
    refine (HH.out _).mono ?_
    rintro e w2 ⟨rfl, hb⟩
    have HB2 := Lib.hid (HB1.out.trans (hb.mono HB1.out.size))
    have HD2 := Lib.hid (HD1.out.next hb HD1.out.lt)
    clear hb c0 c1 c2 c3 c4 c5 c6 c7 c8
    have c0 := HD2.out.c0
    have c1 := HD2.out.c1
    have c2 := HD2.out.c2
    have c3 := HD2.out.c3
    have c4 := HD2.out.c4
    have c5 := HD2.out.c5
    have c6 := HD2.out.c6
    have c7 := HD2.out.c7
    have c8 := HD2.out.c8
    cases b2
    · have HF : Hid (fitD o d = false) := HFT.out
      go_wp2
      go_ret2
      exact ⟨.inr (.inl ⟨HO.out, HF.out, rfl⟩), HB2.out⟩
    have HF : Hid (fitD o d = true) := HFT.out
    go_wp2_with fail
    refine (refParts_any o d _ HO.out).mono ?_
    rintro e w3 ⟨v, rfl, ho3, hb⟩
    obtain ⟨A3, cc, rfl, hs3⟩ := ho3.slp
    have HB3 := Lib.hid (HB2.out.trans (hb.mono HB2.out.size))
    have HS3 := Lib.hid hs3
    have HPM := Lib.hid (partsD_allMay (o := o) (mayD_val H1.out))
    have HPC := Lib.hid (partsD_cost HO.out d)
    clear hb ho3 hs3 c0 c1 c2 c3 c4 c5 c6 c7 c8
    go_wp2_with fail
    refine (refKey_any A3 cc (partsD o d) _ HS3.out (by rw [HPC.out]; omega) (partsD_ok hok)).mono ?_
    rintro e w4 (⟨_, ⟨v, rfl, ho4⟩, hb⟩ | ⟨hno, _, _⟩)
    · have HB4 := Lib.hid (HB3.out.trans (hb.mono HB3.out.size))
      have HO4 := Lib.hid (ho4.from_ HB3.out.size)
      clear hb ho4
      go_wp2
      go_ret2
      exact ⟨.inr (.inr ⟨HF.out, _, rfl, HO4.out⟩), HB4.out⟩
    · rw [HPM.out] at hno
      cases hno
end Go.Proofs.Ytefekkcmoambhaa

/-
  CONTRACT over datoms: Key.
-/
namespace Go.Proofs.Ytefekkcmoambhaa
open Go.RowKit Go.Shelf
attribute [local go_sem] Oper.semAt_some

/-- seven parts in an array -/
def ArrAt (W : World) (b : Nat) (l : List PartP) : Prop := W.heap[b]? = some (.cells (l.flatMap cellsP).toArray 100 (0, 0))
theorem ArrAt.kept {W W' : World} {b : Nat} {l : List PartP} {row : Option Nat} (h : ArrAt W b l) (hg : W.grownBy W' row) (hr : some b ≠ row) : ArrAt W' b l := (hg.block b (Array.getElem?_eq_some_iff.1 h).1 hr).trans h
theorem ArrAt.next {W W' : World} {b B : Nat} {l : List PartP} (h : ArrAt W b l) (hb : Below B W W') (hB : b < B) : ArrAt W' b l := (hb.block b hB).trans h
theorem ArrAt.lt {W : World} {b : Nat} {l : List PartP} (h : ArrAt W b l) : b < W.heap.size := (Array.getElem?_eq_some_iff.1 h).1
theorem ArrAt.alloc {W : World} {b : Nat} {l : List PartP} (h : ArrAt W b l) (o : Obj) : ArrAt (W.alloc o) b l := (Below.heap_alloc W o b h.lt).trans h
theorem arr_set5 (l : List PartP) (x : Nat) (p : PartP) (h : l.length = 7) (hx : x < 7) :
    (((((l.flatMap cellsP).toArray.setIfInBounds (x * 5) (.bool p.v)).setIfInBounds (x * 5 + 1) (.int .i64 p.n)).setIfInBounds (x * 5 + 2) (.int .i64 p.k)).setIfInBounds (x * 5 + 3) (.int .i64 p.m)).setIfInBounds (x * 5 + 4) (.string p.s) = ((l.set x p).flatMap cellsP).toArray := by
  obtain ⟨p0, p1, p2, p3, p4, p5, p6, rfl⟩ := list7 h
  match x, hx with
  | 0, _ => simp [cellsP]
  | 1, _ => simp [cellsP]
  | 2, _ => simp [cellsP]
  | 3, _ => simp [cellsP]
  | 4, _ => simp [cellsP]
  | 5, _ => simp [cellsP]
  | 6, _ => simp [cellsP]
theorem ArrAt.set {W : World} {b : Nat} {l : List PartP} (h : ArrAt W b l) (hl : l.length = 7) (x : Nat) (hx : x < 7) (p : PartP) :
    ArrAt (((((W.setCell ⟨b, x * 5, none⟩ (.bool p.v)).setCell ⟨b, x * 5 + 1, none⟩ (.int .i64 p.n)).setCell ⟨b, x * 5 + 2, none⟩ (.int .i64 p.k)).setCell ⟨b, x * 5 + 3, none⟩ (.int .i64 p.m)).setCell ⟨b, x * 5 + 4, none⟩ (.string p.s)) b (l.set x p) := by
  show (World.heap _)[b]? = _
  rw [← arr_set5 l x p hl hx]
  exact heap_setCell_same _ _ _ _ _ _ (heap_setCell_same _ _ _ _ _ _ (heap_setCell_same _ _ _ _ _ _ (heap_setCell_same _ _ _ _ _ _ (heap_setCell_same _ _ _ _ _ _ h))))
theorem ArrAt.cell {W : World} {b : Nat} {l : List PartP} (h : ArrAt W b l) (j : Nat) : W.cell? ⟨b, j, none⟩ = (l.flatMap cellsP)[j]? := by unfold ArrAt at h; simp [World.cell?, h]
theorem ArrAt.fz {W : World} {b : Nat} {l : List PartP} (h : ArrAt W b l) (j : Nat) : W.frozen? ⟨b, j, none⟩ = false := by unfold ArrAt at h; simp [World.frozen?, h]
theorem ArrAt.at_ {W : World} {b : Nat} {l : List PartP} (h : ArrAt W b l) (hl : l.length = 7) (x i : Nat) (hx : x < 7) (hi : i < 5) : ∃ u, W.cell? ⟨b, x * 5 + i, none⟩ = some u := by
  rw [h.cell]
  have hlen : (l.flatMap cellsP).length = 35 := by
    obtain ⟨p0, p1, p2, p3, p4, p5, p6, rfl⟩ := list7 hl
    rfl
  exact ⟨_, List.getElem?_eq_getElem (by omega)⟩
theorem below_set5o {W : World} {B b o : Nat} (hb : B ≤ b) (u0 u1 u2 u3 u4 : Value) : Below B W (((((W.setCell ⟨b, o, none⟩ u0).setCell ⟨b, o + 1, none⟩ u1).setCell ⟨b, o + 2, none⟩ u2).setCell ⟨b, o + 3, none⟩ u3).setCell ⟨b, o + 4, none⟩ u4) :=
  (((((Below.refl B W).setCell (p := ⟨b, o, none⟩) hb _).setCell (p := ⟨b, o + 1, none⟩) hb _).setCell (p := ⟨b, o + 2, none⟩) hb _).setCell (p := ⟨b, o + 3, none⟩) hb _).setCell (p := ⟨b, o + 4, none⟩) hb _
theorem other_set5o {W : World} {b o k : Nat} (hk : k ≠ b) (u0 u1 u2 u3 u4 : Value) : (((((W.setCell ⟨b, o, none⟩ u0).setCell ⟨b, o + 1, none⟩ u1).setCell ⟨b, o + 2, none⟩ u2).setCell ⟨b, o + 3, none⟩ u3).setCell ⟨b, o + 4, none⟩ u4).heap[k]? = W.heap[k]? := by
  rw [Below.heap_setCell _ _ _ _ (by exact hk), Below.heap_setCell _ _ _ _ (by exact hk), Below.heap_setCell _ _ _ _ (by exact hk), Below.heap_setCell _ _ _ _ (by exact hk), Below.heap_setCell _ _ _ _ (by exact hk)]
theorem keeps_set5o {W : World} {B b o : Nat} {l : List PartP} (h : ArrAt W b l) (u0 u1 u2 u3 u4 : Value) : KeepsFrom B W (((((W.setCell ⟨b, o, none⟩ u0).setCell ⟨b, o + 1, none⟩ u1).setCell ⟨b, o + 2, none⟩ u2).setCell ⟨b, o + 3, none⟩ u3).setCell ⟨b, o + 4, none⟩ u4) :=
  have h0 := heap_setCell_same W b o _ _ u0 h
  have h1 := heap_setCell_same _ b (o + 1) _ _ u1 h0
  have h2 := heap_setCell_same _ b (o + 2) _ _ u2 h1
  have h3 := heap_setCell_same _ b (o + 3) _ _ u3 h2
  ((((keepsFrom_set (p := ⟨b, o, none⟩) h u0).trans (keepsFrom_set (p := ⟨b, o + 1, none⟩) h0 u1)).trans (keepsFrom_set (p := ⟨b, o + 2, none⟩) h1 u2)).trans (keepsFrom_set (p := ⟨b, o + 3, none⟩) h2 u3)).trans (keepsFrom_set (p := ⟨b, o + 4, none⟩) h3 u4)
theorem ArrAt.slp {W : World} {b : Nat} {l : List PartP} (h : ArrAt W b l) : SlP W W.heap.size (some ⟨b, 0, none⟩) l := fun _ => by
  refine ⟨b, 0, rfl, h.lt, fun j p hp => ?_⟩
  have k : ∀ i, i < 5 → W.cell? ⟨b, 0 + j * 5 + i, none⟩ = (cellsP p)[i]? := fun i hi => by
    rw [Nat.zero_add, h.cell, flatK cellsP 5 (fun _ => rfl) l j i hi, hp]; rfl
  exact ⟨k 0 (by omega), k 1 (by omega), k 2 (by omega), k 3 (by omega), k 4 (by omega)⟩
def zeroPs : List PartP := [zeroP, zeroP, zeroP, zeroP, zeroP, zeroP, zeroP]
/-- what stands behind some rounds -/
def KMid (w : World) (n ga pe pa pv : Nat) (d : Dat) (pre : List (Fin 7)) (W : World) : Prop :=
  n ≤ W.heap.size ∧ Below w.heap.size w W ∧ ∃ l, l.length = 7 ∧ ArrAt W ga l ∧ ∀ i ∈ pre, l[i.val]? = some (partPl pe pa pv d i.val)
theorem kMid_own (w : World) (n ga pe pa pv : Nat) (d : Dat) (h0 : w.heap.size ≤ n) (h1 : ga < n) : OwnFrom n (KMid w n ga pe pa pv d) := fun pre X Y row ⟨g0, g4, l, g1, g2, g3⟩ hg hr => by
  have hne : ∀ b, b < n → some b ≠ row := fun b hb e => by have := (hr b e.symm).1; omega
  exact ⟨Nat.le_trans g0 hg.size, g4.grown hg g4.size (fun j ej => by have := (hr j ej).1; omega), l, g1, g2.kept hg (hne _ h1), g3⟩

set_option maxRecDepth 100000 in
set_option maxHeartbeats 2000000 in
theorem keyD_in (m : Nat) (hm3 : Hid (3 ≤ m)) (o : Int) (ho : isO o = true) (pe pa pv : Nat) (hpl : ∀ X, Calls Try.prog 70 #[.int .i64 o] X fun e w' => e = .returned (.tuple #[.agg #[.int .i64 (pe : Int), .int .i64 (pa : Int), .int .i64 (pv : Int)], .bool true]) ∧ Below X.heap.size X w') (d : Dat) (hfit : fitD o d = true) (hpp : partsPl pe pa pv d = partsD o d) (hs : d.s.size ≤ maxLen) (hok : DatOk d) (w : World) :
    CallsIn Fence.wide m Try.prog 30 #[.int .i64 o, .agg #[.int .i64 d.e, .int .i64 d.a, .int .i64 d.k, .int .i64 d.m, .string d.s, .int .i64 d.t, .bool d.add, .int .i64 d.fr, .int .i64 d.til]] w (DKeyEnd w o d) := by
  have HPL := Lib.hid hpl
  have HO := Lib.hid ho
  have HFIT := Lib.hid hfit
  have HPP := Lib.hid hpp
  have HM := Lib.hid (fun X => by have h9 := dMay_any d X hs; rw [fitD_may hfit] at h9; exact h9)
  have HH := Lib.hid (fun X => by have h9 := has_any o d X; rw [(Bool.and_eq_true_iff.1 hfit).2] at h9; exact h9)
  clear hpl ho hfit hpp
  refine callsIn_of_wp_marks Try.func30 rfl trivial ?_ rfl
  simp only [Try.ntmps30, List.size_toArray, List.length_cons, List.length_nil, Nat.reduceAdd, Nat.reduceSub, Array.replicate_succ, Array.replicate_zero, List.push_toArray, List.append_toArray, List.nil_append, List.cons_append]
  gi_wp2_with fail
  refine ⟨trivial, wide_deep _, ?_⟩
  have HD0 := Lib.hid (datAt_new w d)
  have HB0 : Hid (Below w.heap.size w (w.alloc (.cells #[.int .i64 d.e, .int .i64 d.a, .int .i64 d.k, .int .i64 d.m, .string d.s, .int .i64 d.t, .bool d.add, .int .i64 d.fr, .int .i64 d.til] 42))) := (Below.refl _ _).alloc (Nat.le_refl _) _
  refine (callsIn_wide.2 (HPL.out _)).mono ?_
  rintro e w1 ⟨rfl, hb⟩
  have HB1 := Lib.hid (HB0.out.trans (hb.mono HB0.out.size))
  have HD1 := Lib.hid (HD0.out.next hb HD0.out.lt)
  have hx := HD1.out.alloc (.cells #[.int .i64 (pe : Int), .int .i64 (pa : Int), .int .i64 (pv : Int)] 96)
  have c0 := hx.c0
  have c1 := hx.c1
  have c2 := hx.c2
  have c3 := hx.c3
  have c4 := hx.c4
  have c5 := hx.c5
  have c6 := hx.c6
  have c7 := hx.c7
  have c8 := hx.c8
  clear hb hx
  gi_wp2_with fail
  obtain ⟨w1', hw1⟩ : ∃ w1', w1.alloc (.cells #[.int .i64 (pe : Int), .int .i64 (pa : Int), .int .i64 (pv : Int)] 96) = w1' := ⟨_, rfl⟩
  have HD1' : Hid (DatAt w1' w.heap.size d) := by rw [← hw1]; exact HD1.out.alloc _
  have HP1 : Hid (PlcAt w1' w1.heap.size pe pa pv) := by rw [← hw1]; exact plcAt_new _ _ _ _
  have HB1' : Hid (Below w.heap.size w w1') := by rw [← hw1]; exact HB1.out.alloc HB1.out.size _
  rw [hw1]
  clear hw1 c0 c1 c2 c3 c4 c5 c6 c7 c8
  refine ⟨trivial, wide_deep _, ?_⟩
  refine (callsIn_wide.2 (HM.out _)).mono ?_
  rintro e w2 ⟨rfl, hb⟩
  have HB2 := Lib.hid (HB1'.out.trans (hb.mono HB1'.out.size))
  have HD2 := Lib.hid (HD1'.out.next hb HD1'.out.lt)
  have HP2 := Lib.hid (HP1.out.next hb HP1.out.lt)
  have c0 := HD2.out.c0
  have c1 := HD2.out.c1
  have c2 := HD2.out.c2
  have c3 := HD2.out.c3
  have c4 := HD2.out.c4
  have c5 := HD2.out.c5
  have c6 := HD2.out.c6
  have c7 := HD2.out.c7
  have c8 := HD2.out.c8
  clear hb
  gi_wp2_with fail
  refine ⟨trivial, wide_deep _, ?_⟩
  refine (callsIn_wide.2 (HH.out _)).mono ?_
  rintro e w3 ⟨rfl, hb⟩
  have HB3 := Lib.hid (HB2.out.trans (hb.mono HB2.out.size))
  have HD3 := Lib.hid (HD2.out.next hb HD2.out.lt)
  have HP3 := Lib.hid (HP2.out.next hb HP2.out.lt)
  obtain ⟨zc, hzc⟩ : ∃ zc, zeroPs.flatMap cellsP = zc := ⟨_, rfl⟩
  have hx := HD3.out.alloc (.cells (zeroPs.flatMap cellsP).toArray 100)
  have hy := HP3.out.alloc (.cells (zeroPs.flatMap cellsP).toArray 100)
  have hzl : (zeroPs.flatMap cellsP).toArray = #[.bool false, .int .i64 0, .int .i64 0, .int .i64 0, .string ⟨#[]⟩, .bool false, .int .i64 0, .int .i64 0, .int .i64 0, .string ⟨#[]⟩, .bool false, .int .i64 0, .int .i64 0, .int .i64 0, .string ⟨#[]⟩, .bool false, .int .i64 0, .int .i64 0, .int .i64 0, .string ⟨#[]⟩, .bool false, .int .i64 0, .int .i64 0, .int .i64 0, .string ⟨#[]⟩, .bool false, .int .i64 0, .int .i64 0, .int .i64 0, .string ⟨#[]⟩, .bool false, .int .i64 0, .int .i64 0, .int .i64 0, .string ⟨#[]⟩] := rfl
  have HZL := Lib.hid hzl
  rw [hzl] at hx hy
  clear hb c0 c1 c2 c3 c4 c5 c6 c7 c8 hzl hzc
  have c0 := hx.c0
  have c1 := hx.c1
  have c2 := hx.c2
  have c3 := hx.c3
  have c4 := hx.c4
  have c5 := hx.c5
  have c6 := hx.c6
  have c7 := hx.c7
  have c8 := hx.c8
  have p0 := hy.c0
  have p1 := hy.c1
  have p2 := hy.c2
  clear hx hy
  gi_wp2_with fail
  refine ⟨trivial, wide_deep _, ?_⟩
  refine (callsIn_wide.2 (toldOfD_any _ _ _ _ _)).mono ?_
  rintro e w9 ⟨rfl, rfl⟩
  clear c0 c1 c2 c3 c4 c5 c6 c7 c8 p0 p1 p2
  gi_wp2_with fail
  rw [← HZL.out]
  obtain ⟨W2, hW2⟩ : ∃ W2, (((w3.alloc (.cells (zeroPs.flatMap cellsP).toArray 100)).alloc (.cells #[.int .i64 (pe : Int), .int .i64 (pa : Int), .int .i64 (pv : Int)] 96)).alloc (.cells #[.int .i64 d.e, .int .i64 d.a, .int .i64 d.k, .int .i64 d.m, .string d.s, .int .i64 d.t, .bool d.add, .int .i64 d.fr, .int .i64 d.til] 42)) = W2 := ⟨_, rfl⟩
  have hz : W2.heap.size = w3.heap.size + 3 := by rw [← hW2]; simp
  have hbz := HB3.out.size
  have hBw : Below w.heap.size w W2 := by rw [← hW2]; exact ((HB3.out.alloc hbz _).alloc (by simp; omega) _).alloc (by simp; omega) _
  have hAr : ArrAt W2 w3.heap.size zeroPs := by
    rw [← hW2]
    have : ArrAt (w3.alloc (.cells (zeroPs.flatMap cellsP).toArray 100)) w3.heap.size zeroPs := heap_alloc_new _ _
    exact (this.alloc _).alloc _
  have hV1 : PlcAt W2 (w3.heap.size + 1) pe pa pv := by
    rw [← hW2]
    have := plcAt_new (w3.alloc (.cells (zeroPs.flatMap cellsP).toArray 100)) pe pa pv
    rw [World.size_alloc] at this
    exact this.alloc _
  have hV2 : DatAt W2 (w3.heap.size + 1 + 1) d := by
    rw [← hW2]
    have := datAt_new ((w3.alloc (.cells (zeroPs.flatMap cellsP).toArray 100)).alloc (.cells #[.int .i64 (pe : Int), .int .i64 (pa : Int), .int .i64 (pv : Int)] 96)) d
    rw [World.size_alloc, World.size_alloc] at this
    exact this
  rw [hW2]
  clear hW2
  have hro : Fence.wide.round = none := rfl
  refine wpIn_rangeFunc_ownH hro (by have := hm3.out; omega) (gf := 108) (lb := #[.pointer (some ⟨w3.heap.size + 1, 0, none⟩), .pointer (some ⟨w3.heap.size + 1 + 1, 0, none⟩)]) rfl trivial (enters_of Try.func108 (by kernel_rfl) rfl)
    (toldD_stops (m - 1) w.heap.size (w3.heap.size + 1) (w3.heap.size + 1 + 1) pe pa pv d W2 (by omega) hV1 hV2)
    (fun h k => h.trans k) (fun W l o o' hl h h1 h2 => keep2_b (w := W2) (n₀ := w.heap.size) (by omega) (by omega) (by omega) W l o o' hl h h1 h2) (Below.refl _ _) (fun _ => rfl)
    (KMid w W2.heap.size w3.heap.size pe pa pv d) (fun _ _ _ => False) (kMid_own _ _ _ _ _ _ _ (by omega) (by omega)) (fun _ _ _ _ _ h => h.elim)
    ⟨Nat.le_refl _, hBw, zeroPs, rfl, hAr, fun i h => by cases h⟩
    (fun x a' W => ∃ g, PartBox W g (partPl pe pa pv d x.val) ∧ a' = { tmps := #[.int .i64 o, .agg #[.int .i64 d.e, .int .i64 d.a, .int .i64 d.k, .int .i64 d.m, .string d.s, .int .i64 d.t, .bool d.add, .int .i64 d.fr, .int .i64 d.til], undef, .pointer (some ⟨w.heap.size, 0, none⟩), .slice none 0 0, .int .i64 0, .pointer (some ⟨w1.heap.size, 0, none⟩), .bool true, .pointer (some ⟨w3.heap.size, 0, none⟩), .int .i64 ((x.val : Nat) : Int), .pointer (some ⟨g, 0, none⟩), .tuple #[.agg #[.int .i64 (pe : Int), .int .i64 (pa : Int), .int .i64 (pv : Int)], .bool true], .int .i64 o, .tuple #[.agg #[.int .i64 (pe : Int), .int .i64 (pa : Int), .int .i64 (pv : Int)], .bool true], .agg #[.int .i64 (pe : Int), .int .i64 (pa : Int), .int .i64 (pv : Int)], .bool true, .bool true, .bool false, .agg #[.int .i64 d.e, .int .i64 d.a, .int .i64 d.k, .int .i64 d.m, .string d.s, .int .i64 d.t, .bool d.add, .int .i64 d.fr, .int .i64 d.til], .bool true, .bool false, .bool false, .int .i64 o, .agg #[.int .i64 d.e, .int .i64 d.a, .int .i64 d.k, .int .i64 d.m, .string d.s, .int .i64 d.t, .bool d.add, .int .i64 d.fr, .int .i64 d.til], .bool true, .bool false, .bool false, .agg #[.int .i64 (pe : Int), .int .i64 (pa : Int), .int .i64 (pv : Int)], .agg #[.int .i64 d.e, .int .i64 d.a, .int .i64 d.k, .int .i64 d.m, .string d.s, .int .i64 d.t, .bool d.add, .int .i64 d.fr, .int .i64 d.til], .func (.func 108) #[] #[.pointer (some ⟨w3.heap.size + 1, 0, none⟩), .pointer (some ⟨w3.heap.size + 1 + 1, 0, none⟩)], .int .i64 ((x.val : Nat) : Int), .agg #[.bool (partPl pe pa pv d x.val).v, .int .i64 (partPl pe pa pv d x.val).n, .int .i64 (partPl pe pa pv d x.val).k, .int .i64 (partPl pe pa pv d x.val).m, .string (partPl pe pa pv d x.val).s], undef, undef, undef, undef, undef, undef, undef], defers := [] })
    (fun x a' _ X Y row ⟨g, hg, e⟩ hgr hr => ⟨g, hg.kept hgr (fun r e => (hr r e).2), e⟩) ?assign ?body ?done ?stop
  case assign =>
    rintro lp pre x W K ⟨h0, h1, l, h2, h3, h4⟩ hK
    gi_wp2
    refine hK _ _ (keepsFrom_below ((Below.refl _ W).alloc (Nat.le_refl _) _)) (keep2_below ((Below.refl _ W).alloc (Nat.le_refl _) _) (by omega) (by omega) (by omega)) ⟨(by simp; omega), h1.alloc h1.size _, l, h2, h3.alloc _, h4⟩ ⟨W.heap.size, partBox_new _ _, rfl⟩
  case body =>
    rintro lp pre x a' W hwl _ ⟨h0, h1, l, h2, h3, h4⟩ ⟨g, hg, rfl⟩ hlt
    have k0 := hg.k0
    have k1 := hg.k1
    have k2 := hg.k2
    have k3 := hg.k3
    have k4 := hg.k4
    have hxl : ((x.val : Nat) : Int) < 7 := by have := x.isLt; omega
    obtain ⟨u0, a0⟩ := h3.at_ h2 x.val 0 x.isLt (by omega)
    rw [Nat.add_zero] at a0
    obtain ⟨u1, a1⟩ := h3.at_ h2 x.val 1 x.isLt (by omega)
    obtain ⟨u2, a2⟩ := h3.at_ h2 x.val 2 x.isLt (by omega)
    obtain ⟨u3, a3⟩ := h3.at_ h2 x.val 3 x.isLt (by omega)
    obtain ⟨u4, a4⟩ := h3.at_ h2 x.val 4 x.isLt (by omega)
    have f0 := h3.fz (x.val * 5)
    have f1 := h3.fz (x.val * 5 + 1)
    have f2 := h3.fz (x.val * 5 + 2)
    have f3 := h3.fz (x.val * 5 + 3)
    have f4 := h3.fz (x.val * 5 + 4)
    have H1 := Lib.hid h1
    have H3 := Lib.hid h3
    have H4 := Lib.hid h4
    have HX := Lib.hid x.isLt
    clear h1 h3 h4
    gi_wp2
    refine ⟨keeps_set5o H3.out _ _ _ _ _, ⟨below_set5o (by omega) _ _ _ _ _, other_set5o (by omega) _ _ _ _ _, other_set5o (by omega) _ _ _ _ _⟩, (by simpa using h0), H1.out.trans (below_set5o (by omega) _ _ _ _ _), l.set x.val (partPl pe pa pv d x.val), (by rw [List.length_set]; exact h2), H3.out.set h2 x.val HX.out _, fun i hi => ?_⟩
    rw [List.getElem?_set]
    by_cases hxi : x.val = i.val
    · rw [if_pos hxi, if_pos (by omega), hxi]
    · rw [if_neg hxi]
      rcases List.mem_append.1 hi with hi | hi
      · exact H4.out i hi
      · exact absurd (congrArg Fin.val (List.mem_singleton.1 hi)).symm hxi
  case done =>
    rintro D ys W hD hys ⟨h0, h1, l, h2, h3, h4⟩ hK
    subst hys
    have hl : l = partsD o d := by
      rw [← HPP.out]
      refine List.ext_getElem? fun i => ?_
      by_cases hi : i < 7
      · have h9 := h4 ⟨i, hi⟩ (List.mem_of_getElem? (allF_at i hi))
        rw [h9]
        unfold partsPl
        rw [List.getElem?_map, List.getElem?_range hi]; rfl
      · rw [List.getElem?_eq_none (by omega), List.getElem?_eq_none (by rw [partsPl_len]; omega)]
    subst hl
    have hsp : SlP W W.heap.size (some ⟨w3.heap.size, 0, none⟩) (partsD o d) := h3.slp
    have HSP := Lib.hid hsp
    have HB := Lib.hid h1
    have HKD := Lib.hid hK
    have HC := Lib.hid (partsD_cost HO.out d)
    have HLN : Hid ((partsD o d).length = 7) := partsD_len o d
    have HPM := Lib.hid (partsD_allMay (o := o) (mayD_val (fitD_may HFIT.out)))
    have HOK := Lib.hid (partsD_ok (o := o) hok)
    have hkey := key_big (some ⟨w3.heap.size, 0, none⟩) 7 (partsD o d) W HSP.out (by rw [HC.out]; have := mayB_size (mayD_val (fitD_may HFIT.out)); omega) HOK.out
    rw [HLN.out] at hkey
    have HKEY := Lib.hid hkey
    clear hsp h1 h2 h3 h4 hK hkey
    gi_wp2_with fail
    refine ⟨trivial, wide_deep _, ?_⟩
    refine (callsIn_wide.2 HKEY.out).mono ?_
    rintro e w4 (⟨_, ⟨v, rfl, ho4⟩, hb⟩ | ⟨hno, _, _⟩)
    · have HB4 := Lib.hid (HB.out.trans (hb.mono HB.out.size))
      have HO4 := Lib.hid (ho4.from_ HB.out.size)
      have HK4 : Hid (w4.heap[D]? = some (.deferred (some []))) := (hb.block D (Array.getElem?_eq_some_iff.1 HKD.out).1).trans HKD.out
      clear hb ho4
      gi_wp2
      refine ⟨by simp, .inl ⟨_, _, rfl, run_takeDeferred HK4.out, ?_⟩⟩
      exact ⟨_, results_tmp2 rfl _ _ _, by exact ⟨.inr (.inr ⟨HFIT.out, _, rfl, HO4.out.kept (grownBy_putObj' w4 D (.deferred none)) (fun r e => by injection e with e; subst e; exact ⟨_, HK4.out, rfl⟩)⟩), HB4.out.trans (belowK_b (w := W2) (n₀ := w.heap.size) (by omega) w4 D _ (.deferred none) hD HK4.out rfl rfl)⟩⟩
    · rw [HPM.out] at hno
      cases hno
  case stop =>
    rintro D cd pre W _ _ h _
    exact h.elim

set_option maxRecDepth 100000 in
set_option maxHeartbeats 1000000 in
theorem keyD_noO (o : Int) (d : Dat) (w : World) (ho : isO o = false) : Calls Try.prog 30 #[.int .i64 o, .agg #[.int .i64 d.e, .int .i64 d.a, .int .i64 d.k, .int .i64 d.m, .string d.s, .int .i64 d.t, .bool d.add, .int .i64 d.fr, .int .i64 d.til]] w (DKeyEnd w o d) := by
  have HO := Lib.hid ho
  have HB0 : Hid (Below w.heap.size w (w.alloc (.cells #[.int .i64 d.e, .int .i64 d.a, .int .i64 d.k, .int .i64 d.m, .string d.s, .int .i64 d.t, .bool d.add, .int .i64 d.fr, .int .i64 d.til] 42))) := (Below.refl _ _).alloc (Nat.le_refl _) _
  have h9 := placesOf_any o (w.alloc (.cells #[.int .i64 d.e, .int .i64 d.a, .int .i64 d.k, .int .i64 d.m, .string d.s, .int .i64 d.t, .bool d.add, .int .i64 d.fr, .int .i64 d.til] 42))
  have e : plcV o = .agg #[.int .i64 (0 : Int), .int .i64 (0 : Int), .int .i64 (0 : Int)] := by
    unfold plcV
    have := noO ho
    rw [if_neg (by omega), if_neg (by omega), if_neg (by omega), if_neg (by omega)]
  rw [ho, e] at h9
  have H9 := Lib.hid h9
  clear ho h9 e
  go_enter Try.func30, Try.ntmps30
  go_wp2_with fail
  refine H9.out.mono ?_
  rintro e w1 ⟨rfl, hb⟩
  have HB1 := Lib.hid (HB0.out.trans (hb.mono HB0.out.size))
  clear hb
  go_wp2
  go_ret2
  exact ⟨.inl ⟨HO.out, rfl⟩, HB1.out.alloc HB1.out.size _⟩

set_option maxRecDepth 100000 in
set_option maxHeartbeats 1000000 in
theorem keyD_noFit (o : Int) (ho : isO o = true) (d : Dat) (w : World) (hs : d.s.size ≤ maxLen) (hfit : fitD o d = false) : Calls Try.prog 30 #[.int .i64 o, .agg #[.int .i64 d.e, .int .i64 d.a, .int .i64 d.k, .int .i64 d.m, .string d.s, .int .i64 d.t, .bool d.add, .int .i64 d.fr, .int .i64 d.til]] w (DKeyEnd w o d) := by
  have HO := Lib.hid ho
  have HF := Lib.hid hfit
  have HB0 : Hid (Below w.heap.size w (w.alloc (.cells #[.int .i64 d.e, .int .i64 d.a, .int .i64 d.k, .int .i64 d.m, .string d.s, .int .i64 d.t, .bool d.add, .int .i64 d.fr, .int .i64 d.til] 42))) := (Below.refl _ _).alloc (Nat.le_refl _) _
  have HD0 := Lib.hid (datAt_new w d)
  have h9 := placesOf_any o (w.alloc (.cells #[.int .i64 d.e, .int .i64 d.a, .int .i64 d.k, .int .i64 d.m, .string d.s, .int .i64 d.t, .bool d.add, .int .i64 d.fr, .int .i64 d.til] 42))
  rw [ho, plcV_is ho] at h9
  obtain ⟨pe, hpe⟩ : ∃ p, plE o = p := ⟨_, rfl⟩
  obtain ⟨pa, hpa⟩ : ∃ p, plA o = p := ⟨_, rfl⟩
  obtain ⟨pv, hpv⟩ : ∃ p, plV o = p := ⟨_, rfl⟩
  rw [hpe, hpa, hpv] at h9
  have H9 := Lib.hid h9
  obtain ⟨b1, h1⟩ : ∃ b, mayD d = b := ⟨_, rfl⟩
  have HM := Lib.hid (fun X => by have h8 := dMay_any d X hs; rw [h1] at h8; exact h8)
  have HH := Lib.hid (fun (h2 : b1 = true) X => by have h8 := has_any o d X; rw [show hasD o d = false from by have := hfit; unfold fitD at this; rw [h1, h2] at this; simpa using this] at h8; exact h8)
  clear ho h9 hfit hpe hpa hpv h1
  go_enter Try.func30, Try.ntmps30
  go_wp2_with fail
  refine H9.out.mono ?_
  rintro e w1 ⟨rfl, hb⟩
  have HB1 := Lib.hid (HB0.out.trans (hb.mono HB0.out.size))
  have HD1 := Lib.hid (HD0.out.next hb HD0.out.lt)
  have hx := HD1.out.alloc (.cells #[.int .i64 (pe : Int), .int .i64 (pa : Int), .int .i64 (pv : Int)] 96)
  have HB1' := Lib.hid (HB1.out.alloc HB1.out.size (.cells #[.int .i64 (pe : Int), .int .i64 (pa : Int), .int .i64 (pv : Int)] 96))
  have HDX := Lib.hid hx
  have c0 := hx.c0
  have c1 := hx.c1
  have c2 := hx.c2
  have c3 := hx.c3
  have c4 := hx.c4
  have c5 := hx.c5
  have c6 := hx.c6
  have c7 := hx.c7
  have c8 := hx.c8
  clear hb hx
  go_wp2_with fail
  refine (HM.out _).mono ?_
  rintro e w2 ⟨rfl, hb⟩
  have HB2 := Lib.hid (HB1'.out.trans (hb.mono HB1'.out.size))
  have HD2 := Lib.hid (HDX.out.next hb HDX.out.lt)
  clear hb c0 c1 c2 c3 c4 c5 c6 c7 c8
  cases b1
  · go_wp2
    go_ret2
    exact ⟨.inr (.inl ⟨HO.out, HF.out, rfl⟩), HB2.out⟩
  have c0 := HD2.out.c0
  have c1 := HD2.out.c1
  have c2 := HD2.out.c2
  have c3 := HD2.out.c3
  have c4 := HD2.out.c4
  have c5 := HD2.out.c5
  have c6 := HD2.out.c6
  have c7 := HD2.out.c7
  have c8 := HD2.out.c8
  go_wp2_with fail
  refine (HH.out (by trivial) _).mono ?_
  rintro e w3 ⟨rfl, hb⟩
  have HB3 := Lib.hid (HB2.out.trans (hb.mono HB2.out.size))
  clear hb c0 c1 c2 c3 c4 c5 c6 c7 c8
  go_wp2
  go_ret2
  exact ⟨.inr (.inl ⟨HO.out, HF.out, rfl⟩), HB3.out⟩
/-- Key, as the document has it. -/
theorem keyD_any (o : Int) (d : Dat) (w : World) (hs : d.s.size ≤ maxLen) (hok : DatOk d) : Calls Try.prog 30 #[.int .i64 o, .agg #[.int .i64 d.e, .int .i64 d.a, .int .i64 d.k, .int .i64 d.m, .string d.s, .int .i64 d.t, .bool d.add, .int .i64 d.fr, .int .i64 d.til]] w (DKeyEnd w o d) := by
  cases ho : isO o
  · exact keyD_noO o d w ho
  · cases hf : fitD o d
    · exact keyD_noFit o ho d w hs hf
    · exact (callsIn_wide (n := 9)).1 (keyD_in 9 (Nat.le_of_ble_eq_true rfl) o ho (plE o) (plA o) (plV o) (fun X => by have h9 := placesOf_any o X; rw [plcV_is ho, ho] at h9; exact h9) d hf rfl hs hok w)
/-- Compare, in no order. -/
theorem cmpD_no (o : Int) (a b : Dat) (w : World) (ho : isO o = false) : Calls Try.prog 34 #[.int .i64 o, .agg #[.int .i64 a.e, .int .i64 a.a, .int .i64 a.k, .int .i64 a.m, .string a.s, .int .i64 a.t, .bool a.add, .int .i64 a.fr, .int .i64 a.til], .agg #[.int .i64 b.e, .int .i64 b.a, .int .i64 b.k, .int .i64 b.m, .string b.s, .int .i64 b.t, .bool b.add, .int .i64 b.fr, .int .i64 b.til]] w fun e w' => e = .returned (.int .i64 (ordD o a b)) ∧ Below w.heap.size w w' := by
  have HE : Hid (ordD o a b = 0) := by show _ = _; unfold ordD; rw [ho]; rfl
  have HB0 : Hid (Below w.heap.size w ((w.alloc (.cells #[.int .i64 a.e, .int .i64 a.a, .int .i64 a.k, .int .i64 a.m, .string a.s, .int .i64 a.t, .bool a.add, .int .i64 a.fr, .int .i64 a.til] 42)).alloc (.cells #[.int .i64 b.e, .int .i64 b.a, .int .i64 b.k, .int .i64 b.m, .string b.s, .int .i64 b.t, .bool b.add, .int .i64 b.fr, .int .i64 b.til] 42))) := ((Below.refl _ _).alloc (Nat.le_refl _) _).alloc (by simp) _
  have h9 := placesOf_any o ((w.alloc (.cells #[.int .i64 a.e, .int .i64 a.a, .int .i64 a.k, .int .i64 a.m, .string a.s, .int .i64 a.t, .bool a.add, .int .i64 a.fr, .int .i64 a.til] 42)).alloc (.cells #[.int .i64 b.e, .int .i64 b.a, .int .i64 b.k, .int .i64 b.m, .string b.s, .int .i64 b.t, .bool b.add, .int .i64 b.fr, .int .i64 b.til] 42))
  have e : plcV o = .agg #[.int .i64 (0 : Int), .int .i64 (0 : Int), .int .i64 (0 : Int)] := by
    unfold plcV
    have := noO ho
    rw [if_neg (by omega), if_neg (by omega), if_neg (by omega), if_neg (by omega)]
  rw [ho, e] at h9
  have H9 := Lib.hid h9
  clear ho h9 e
  go_enter Try.func34, Try.ntmps34
  go_wp2
  go_step3
  go_wp2_with fail
  refine H9.out.mono ?_
  rintro e w1 ⟨rfl, hb⟩
  have HB1 := Lib.hid (HB0.out.trans (hb.mono HB0.out.size))
  clear hb
  go_wp2
  rw [Exit.noGoto_ret]
  go_ret
  exact ⟨by rw [HE.out]; rfl, HB1.out.alloc HB1.out.size _⟩
theorem cmpD_any (o : Int) (a b : Dat) (w : World) : Calls Try.prog 34 #[.int .i64 o, .agg #[.int .i64 a.e, .int .i64 a.a, .int .i64 a.k, .int .i64 a.m, .string a.s, .int .i64 a.t, .bool a.add, .int .i64 a.fr, .int .i64 a.til], .agg #[.int .i64 b.e, .int .i64 b.a, .int .i64 b.k, .int .i64 b.m, .string b.s, .int .i64 b.t, .bool b.add, .int .i64 b.fr, .int .i64 b.til]] w fun e w' => e = .returned (.int .i64 (ordD o a b)) ∧ Below w.heap.size w w' := by
  cases ho : isO o
  · exact cmpD_no o a b w ho
  · exact cmpD_yes o a b w ho
end Go.Proofs.Ytefekkcmoambhaa
