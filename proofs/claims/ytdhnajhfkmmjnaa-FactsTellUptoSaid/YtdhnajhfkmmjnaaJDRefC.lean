import Derived.Laws.StructEq
import Derived.Test.YtdhnajhfkmmjnaaJORdRead
import Derived.Test.YtdhnajhfkmmjnaaJORdNum
import Derived.Test.YtdhnajhfkmmjnaaJDRefP
/-
  CONTRACT: Same (of two lists of parts that are equal); an own row of parts reads as parts.
-/
namespace Go.Proofs.Ytdhnajhfkmmjnaa
open Go.RowKit Go.Shelf

theorem flatK {α : Type} (f : α → List Value) (k : Nat) (hk : ∀ x, (f x).length = k) : ∀ (l : List α) (j i : Nat), i < k → (l.flatMap f)[j * k + i]? = l[j]?.bind fun x => (f x)[i]?
  | [], j, i, _ => by simp
  | x :: l, 0, i, hi => by
    rw [List.flatMap_cons, List.getElem?_append_left (by rw [hk]; omega)]
    simp
  | x :: l, j + 1, i, hi => by
    have e : (j + 1) * k + i = k + (j * k + i) := by rw [Nat.succ_mul]; omega
    rw [List.flatMap_cons, e, List.getElem?_append_right (by rw [hk]; omega), hk, Nat.add_sub_cancel_left, flatK f k hk l j i hi]
    simp
theorem OwnP.slp {W : World} {B : Nat} {v : Value} {l : List PartP} (h : OwnP W B v l) : ∃ A c, v = .slice A l.length c ∧ SlP W W.heap.size A l := by
  rcases h.2 with ⟨rfl, h0⟩ | ⟨g, cap, cur, rfl, _, hgb, _⟩
  · exact ⟨none, 0, by rw [h0], fun hl => absurd (List.length_eq_zero_iff.1 h0) hl⟩
  · refine ⟨_, _, rfl, fun _ => ⟨g, 0, rfl, (Array.getElem?_eq_some_iff.1 hgb).1, fun j p hp => ?_⟩⟩
    have hr : W.ownsRow B 171 5 (.slice (some ⟨g, 0, none⟩) l.length cap) l.length (l.flatMap cellsP) := h
    have hj : j < l.length := (List.getElem?_eq_some_iff.1 hp).1
    have hc : ∀ i, i < 5 → W.cell? ⟨g, j * 5 + i, none⟩ = (cellsP p)[i]? := fun i hi => by
      rw [hr.cellAt (j * 5 + i) (by omega), flatK cellsP 5 (fun _ => rfl) l j i hi, hp]; rfl
    rw [Nat.zero_add]
    exact ⟨hc 0 (by omega), hc 1 (by omega), hc 2 (by omega), hc 3 (by omega), hc 4 (by omega)⟩

def aggP (p : PartP) : Value := .agg #[.bool p.v, .int .i64 p.n, .int .i64 p.k, .int .i64 p.m, .string p.s]
theorem eqP (p : PartP) (w : World) : (binOp .neq 171 (.agg #[.bool p.v, .int .i64 p.n, .int .i64 p.k, .int .i64 p.m, .string p.s]) (.agg #[.bool p.v, .int .i64 p.n, .int .i64 p.k, .int .i64 p.m, .string p.s])).run Try.prog w = .ok (.bool false) w := by
  have u4 := Try.underlying4
  have u3 := Try.underlying3
  have u2 := Try.underlying2
  have u9 := Try.underlying9
  have a4 := Try.isAgg4
  have a3 := Try.isAgg3
  have a2 := Try.isAgg2
  have a9 := Try.isAgg9
  have aV := Try.isAgg39
  have hS : Try.prog.underlying 171 = some (.struct (Try.prog.fieldsOf 171)) := by kernel_rfl
  have hp : Try.prog.stoodInHeld 171 = false := by kernel_rfl
  have hS' : Try.prog.underlying 39 = some (.struct (Try.prog.fieldsOf 39)) := by kernel_rfl
  have hp' : Try.prog.stoodInHeld 39 = false := by kernel_rfl
  have hV : ∀ w, (Op.equalIn 9999 39 (.agg #[.int .i64 p.k, .int .i64 p.m, .string p.s]) (.agg #[.int .i64 p.k, .int .i64 p.m, .string p.s])).run Try.prog w = .ok true w := fun w => by
    rw [show (9999 : Nat) = 9998 + 1 from rfl, run_equalIn_agg w 9998 39 _ _ hS' hp']
    simp only [Program.fieldsOf, Try.underlying39]
    go_simp
  rw [run_neq_struct, show (10000 : Nat) = 9999 + 1 from rfl, run_equalIn_agg w 9999 171 _ _ hS hp]
  simp only [Program.fieldsOf, Try.underlying171]
  go_simp

end Go.Proofs.Ytdhnajhfkmmjnaa

/-
  THE LAW OrderReads: its walk.
-/
namespace Go.Proofs.Ytdhnajhfkmmjnaa
open Go.RowKit Go.Shelf

def readN (ks : List Bool) (b : List UInt8) : Int := if (readL ks b).isSome then 0 else 20
theorem readEnd_form {W w' : World} {ks : List Bool} {b : List UInt8} {e : Ending} (h : ReadEnd W ks b e w') : ∃ (A : Option Addr) (c : Nat), e = .returned (.tuple #[.slice A ((readL ks b).getD []).length c, .int .i64 (readN ks b)]) ∧ SlP w' w'.heap.size A ((readL ks b).getD []) ∧ Below W.heap.size W w' := by
  obtain ⟨⟨ps, v, h, rfl, ho⟩ | ⟨h, rfl⟩, hb⟩ := h
  · obtain ⟨A, c, rfl, hs⟩ := ho.slp
    unfold readN
    rw [h]
    exact ⟨A, c, rfl, hs, hb⟩
  · unfold readN
    rw [h]
    exact ⟨none, 0, rfl, fun h => absurd rfl h, hb⟩
theorem readL_len {ks : List Bool} {b : List UInt8} : ((readL ks b).getD []).length ≤ ks.length := by
  unfold readL
  split
  · have := tellL_len ks b
    simpa using this
  · simp

theorem SlK.more {W : World} {B B' : Nat} {A : Option Addr} {l : List Bool} (h : SlK W B A l) (hB : B ≤ B') : SlK W B' A l := fun hl => by
  obtain ⟨a, e, hlt, hc⟩ := h hl
  exact ⟨a, e, by omega, hc⟩
theorem ownB_cap {W : World} {B : Nat} {A : Option Addr} {n c : Nat} {l : List UInt8} (h : OwnB W B (.slice A n c) l) : l.length ≤ c ∧ c ≤ maxLen := by
  rcases h.2 with ⟨e, h0⟩ | ⟨g, cap, cur, e, _, _, h1, h2, _⟩
  · injection e with _ _ e
    subst e
    exact ⟨by omega, Nat.zero_le _⟩
  · injection e with _ _ e
    subst e
    exact ⟨h1, h2⟩

end Go.Proofs.Ytdhnajhfkmmjnaa

/-
  CONTRACTS of the document's own answer over datoms: entity, May, Has, Compare, Key.
-/
namespace Go.Proofs.Ytdhnajhfkmmjnaa
open Go.RowKit

set_option maxHeartbeats 400000 in
theorem rEnt_is (v : Bool) (n : Int) (w : World) (h : entB n = v) : Calls Try.prog 59 #[.int .i64 n] w fun e w' => e = .returned (.bool v) ∧ w = w' := by
  subst h
  by_cases h0 : 0 ≤ n
  · by_cases h1 : n < 9007199254740992
    · have e : Hid (entB n = true) := by show _ = _; unfold entB; simp [h0, h1]
      go_enter Try.func59, Try.ntmps59
      go_wp2
      go_ret
      exact ⟨by rw [e.out]; rfl, rfl⟩
    · have e : Hid (entB n = false) := by show _ = _; unfold entB; simp; omega
      go_enter Try.func59, Try.ntmps59
      go_wp2
      go_ret
      exact ⟨by rw [e.out]; rfl, rfl⟩
  · have e : Hid (entB n = false) := by show _ = _; unfold entB; simp; omega
    have h0' : decide (0 ≤ n) = false := decide_eq_false h0
    go_enter Try.func59, Try.ntmps59
    go_wp2
    go_ret
    exact ⟨by rw [e.out]; rfl, rfl⟩

set_option maxRecDepth 100000 in
set_option maxHeartbeats 2000000 in
theorem rMay_any (d : Dat) (w : World) (hs : d.s.size ≤ maxLen) : Calls Try.prog 38 #[.agg #[.int .i64 d.e, .int .i64 d.a, .int .i64 d.k, .int .i64 d.m, .string d.s, .int .i64 d.t, .bool d.add, .int .i64 d.fr, .int .i64 d.til]] w fun e w' => e = .returned (.bool (mayD d)) ∧ Below w.heap.size w w' := by
  have HB0 : Hid (Below w.heap.size w (w.alloc (.cells #[.int .i64 d.e, .int .i64 d.a, .int .i64 d.k, .int .i64 d.m, .string d.s, .int .i64 d.t, .bool d.add, .int .i64 d.fr, .int .i64 d.til] 76))) := (Below.refl _ _).alloc (Nat.le_refl _) _
  have HDA := Lib.hid (datAt_new w d)
  have HM : Hid (mayD d = (entB d.e && entB d.a && mayB d.k d.m d.s && txB d.t && decide (d.fr < d.til))) := rfl
  obtain ⟨b1, h1⟩ : ∃ b, entB d.e = b := ⟨_, rfl⟩
  obtain ⟨b2, h2⟩ : ∃ b, entB d.a = b := ⟨_, rfl⟩
  obtain ⟨b3, h3⟩ : ∃ b, mayB d.k d.m d.s = b := ⟨_, rfl⟩
  rw [h1, h2, h3] at HM
  have H1 := Lib.hid h1
  have H2 := Lib.hid h2
  have H3 := Lib.hid h3
  clear h1 h2 h3
  go_enter Try.func38, Try.ntmps38
  go_wp2_with fail
  refine (rEnt_is b1 d.e _ H1.out).mono ?_
  rintro e w1 ⟨rfl, rfl⟩
  cases b1
  · have HF : Hid (mayD d = false) := HM.out
    go_wp2
    go_ret
    exact ⟨by rw [HF.out]; rfl, HB0.out⟩
  go_wp2_with fail
  refine (rEnt_is b2 d.a _ H2.out).mono ?_
  rintro e w1 ⟨rfl, rfl⟩
  cases b2
  · have HF : Hid (mayD d = false) := HM.out
    go_wp2
    go_ret
    exact ⟨by rw [HF.out]; rfl, HB0.out⟩
  go_wp2_with fail
  refine (refMay_is (m := b3) _ hs H3.out).mono ?_
  rintro e w1 ⟨rfl, hb⟩
  have HB1 := Lib.hid (HB0.out.trans (hb.mono HB0.out.size))
  have hx := HDA.out.next hb (by simp)
  have c5 := hx.c5
  have c7 := hx.c7
  have c8 := hx.c8
  clear hb hx
  cases b3
  · have HF : Hid (mayD d = false) := HM.out
    go_wp2
    go_ret
    exact ⟨by rw [HF.out]; rfl, HB1.out⟩
  by_cases t1 : 1 ≤ d.t
  · by_cases t2 : d.t ≤ 1099511627776
    · have HT : Hid (txB d.t = true) := by show _ = _; unfold txB; simp [t1, t2]
      by_cases t3 : d.fr < d.til
      · have HF : Hid (mayD d = true) := by show _ = _; rw [HM.out, HT.out, decide_eq_true t3]; rfl
        go_wp2
        go_ret
        exact ⟨by rw [HF.out]; rfl, HB1.out⟩
      · have HF : Hid (mayD d = false) := by show _ = _; rw [HM.out, HT.out, decide_eq_false t3]; rfl
        have t3' : decide (d.fr < d.til) = false := decide_eq_false t3
        go_wp2
        go_ret
        exact ⟨by rw [HF.out]; rfl, HB1.out⟩
    · have HT : Hid (txB d.t = false) := by show _ = _; unfold txB; simp; omega
      have HF : Hid (mayD d = false) := by show _ = _; rw [HM.out, HT.out]; rfl
      have t2' : decide (d.t ≤ 1099511627776) = false := decide_eq_false t2
      go_wp2
      go_ret
      exact ⟨by rw [HF.out]; rfl, HB1.out⟩
  · have HT : Hid (txB d.t = false) := by show _ = _; unfold txB; simp; omega
    have HF : Hid (mayD d = false) := by show _ = _; rw [HM.out, HT.out]; rfl
    have t1' : decide (1 ≤ d.t) = false := decide_eq_false t1
    go_wp2
    go_ret
    exact ⟨by rw [HF.out]; rfl, HB1.out⟩

set_option maxRecDepth 100000 in
set_option maxHeartbeats 1000000 in
theorem rHas_any (o : Int) (d : Dat) (w : World) : Calls Try.prog 71 #[.int .i64 o, .agg #[.int .i64 d.e, .int .i64 d.a, .int .i64 d.k, .int .i64 d.m, .string d.s, .int .i64 d.t, .bool d.add, .int .i64 d.fr, .int .i64 d.til]] w fun e w' => e = .returned (.bool (hasD o d)) ∧ Below w.heap.size w w' := by
  by_cases h1 : 1 ≤ o
  · by_cases h3 : o ≤ 3
    · have HE : Hid (hasD o d = true) := by show _ = _; unfold hasD; rw [decide_eq_true_eq]; exact .inl ⟨h1, h3⟩
      go_enter Try.func71, Try.ntmps71
      go_wp2
      go_ret
      exact ⟨by rw [HE.out]; rfl, (Below.refl _ _).alloc (Nat.le_refl _) _⟩
    · have h3' : decide (o ≤ 3) = false := decide_eq_false h3
      by_cases h4 : o = 4
      · subst h4
        by_cases hk : d.k = 5
        · have HE : Hid (hasD 4 d = true) := by show _ = _; unfold hasD; simp [hk]
          have hkq : (d.k == 5) = true := by rw [hk]; rfl
          clear hk
          go_enter Try.func71, Try.ntmps71
          go_wp2
          go_ret
          exact ⟨by rw [HE.out]; rfl, (Below.refl _ _).alloc (Nat.le_refl _) _⟩
        · have HE : Hid (hasD 4 d = false) := by show _ = _; unfold hasD; simp [hk]
          have hkq : (d.k == 5) = false := by simpa using hk
          clear hk
          go_enter Try.func71, Try.ntmps71
          go_wp2
          go_ret
          exact ⟨by rw [HE.out]; rfl, (Below.refl _ _).alloc (Nat.le_refl _) _⟩
      · have HE : Hid (hasD o d = false) := by show _ = _; unfold hasD; rw [decide_eq_false_iff_not]; omega
        have h4' : (o == 4) = false := beq_eq_false_iff_ne.2 h4
        clear h4
        go_enter Try.func71, Try.ntmps71
        go_wp2
        go_ret
        exact ⟨by rw [HE.out]; rfl, (Below.refl _ _).alloc (Nat.le_refl _) _⟩
  · have HE : Hid (hasD o d = false) := by show _ = _; unfold hasD; rw [decide_eq_false_iff_not]; omega
    have h1' : decide (1 ≤ o) = false := decide_eq_false h1
    have h4' : (o == 4) = false := beq_eq_false_iff_ne.2 (by omega)
    go_enter Try.func71, Try.ntmps71
    go_wp2
    go_ret
    exact ⟨by rw [HE.out]; rfl, (Below.refl _ _).alloc (Nat.le_refl _) _⟩

/-- is it no order? in the walk's words -/
theorem noO {o : Int} (h : isO o = false) : o < 1 ∨ (1 ≤ o ∧ 4 < o) := by
  unfold isO at h
  rw [decide_eq_false_iff_not] at h
  omega
theorem yesO {o : Int} (h : isO o = true) : 1 ≤ o ∧ o ≤ 4 := by
  unfold isO at h
  rw [decide_eq_true_eq] at h
  exact h
set_option maxRecDepth 100000 in
set_option maxHeartbeats 1000000 in
theorem rCmp_any (o : Int) (a b : Dat) (w : World) (hza : a.s.size ≤ 50000) (hzb : b.s.size ≤ 50000) : Calls Try.prog 72 #[.int .i64 o, .agg #[.int .i64 a.e, .int .i64 a.a, .int .i64 a.k, .int .i64 a.m, .string a.s, .int .i64 a.t, .bool a.add, .int .i64 a.fr, .int .i64 a.til], .agg #[.int .i64 b.e, .int .i64 b.a, .int .i64 b.k, .int .i64 b.m, .string b.s, .int .i64 b.t, .bool b.add, .int .i64 b.fr, .int .i64 b.til]] w fun e w' => e = .returned (.int .i64 (ordD o a b)) ∧ Below w.heap.size w w' := by
  cases ho : isO o
  · have HE : Hid (ordD o a b = 0) := by show _ = _; unfold ordD; rw [ho]; rfl
    rcases noO ho with h | ⟨h, h'⟩
    · clear ho
      go_enter Try.func72, Try.ntmps72
      go_wp2
      go_ret
      exact ⟨by rw [HE.out]; rfl, ((Below.refl _ _).alloc (Nat.le_refl _) _).alloc (by simp) _⟩
    · clear ho
      go_enter Try.func72, Try.ntmps72
      go_wp2
      go_ret
      exact ⟨by rw [HE.out]; rfl, ((Below.refl _ _).alloc (Nat.le_refl _) _).alloc (by simp) _⟩
  · have HE : Hid (ordD o a b = ordK (partsD o a) (partsD o b)) := by show _ = _; unfold ordD; rw [if_pos ho]
    obtain ⟨h, h'⟩ := yesO ho
    have HO := Lib.hid ho
    have HB0 : Hid (Below w.heap.size w ((w.alloc (.cells #[.int .i64 a.e, .int .i64 a.a, .int .i64 a.k, .int .i64 a.m, .string a.s, .int .i64 a.t, .bool a.add, .int .i64 a.fr, .int .i64 a.til] 76)).alloc (.cells #[.int .i64 b.e, .int .i64 b.a, .int .i64 b.k, .int .i64 b.m, .string b.s, .int .i64 b.t, .bool b.add, .int .i64 b.fr, .int .i64 b.til] 76))) := ((Below.refl _ _).alloc (Nat.le_refl _) _).alloc (by simp) _
    have HDB : Hid (DatAt ((w.alloc (.cells #[.int .i64 a.e, .int .i64 a.a, .int .i64 a.k, .int .i64 a.m, .string a.s, .int .i64 a.t, .bool a.add, .int .i64 a.fr, .int .i64 a.til] 76)).alloc (.cells #[.int .i64 b.e, .int .i64 b.a, .int .i64 b.k, .int .i64 b.m, .string b.s, .int .i64 b.t, .bool b.add, .int .i64 b.fr, .int .i64 b.til] 76)) (w.heap.size + 1) b) := by
      have := datAt_new (w.alloc (.cells #[.int .i64 a.e, .int .i64 a.a, .int .i64 a.k, .int .i64 a.m, .string a.s, .int .i64 a.t, .bool a.add, .int .i64 a.fr, .int .i64 a.til] 76)) b
      rwa [World.size_alloc] at this
    clear ho
    go_enter Try.func72, Try.ntmps72
    go_wp2_with fail
    refine (refParts_any o a _ HO.out).mono ?_
    rintro e w1 ⟨v, rfl, ho1, hb⟩
    obtain ⟨A1, c1, rfl, hs1⟩ := ho1.slp
    have HB1 := Lib.hid (HB0.out.trans (hb.mono HB0.out.size))
    have hx := HDB.out.next hb (by simp)
    have c0 := hx.c0
    have c1' := hx.c1
    have c2 := hx.c2
    have c3 := hx.c3
    have c4 := hx.c4
    have c5 := hx.c5
    have c6 := hx.c6
    have c7 := hx.c7
    have c8 := hx.c8
    have HS1 := Lib.hid hs1
    clear hb hx ho1 hs1
    go_wp2_with fail
    refine (refParts_any o b _ HO.out).mono ?_
    rintro e w2 ⟨v, rfl, ho2, hb⟩
    obtain ⟨A2, c9, rfl, hs2⟩ := ho2.slp
    have HB2 := Lib.hid (HB1.out.trans (hb.mono HB1.out.size))
    have HS1' := Lib.hid ((HS1.out.next hb (Nat.le_refl _)).more hb.size)
    have HS2 := Lib.hid hs2
    clear hb ho2 hs2 HS1 c0 c1' c2 c3 c4 c5 c6 c7 c8
    go_wp2_with fail
    refine (refCmp_any A1 A2 c1 c9 (partsD o a) (partsD o b) _ _ HS1'.out HS2.out (Nat.le_refl _) (by rw [partsD_len]; omega) (by rw [partsD_len]; omega) (fun p hp => Nat.le_trans (partsD_size p hp) hza) (fun p hp => Nat.le_trans (partsD_size p hp) hzb)).mono ?_
    rintro e w3 ⟨rfl, hb⟩
    have HB3 := Lib.hid (HB2.out.trans (hb.mono HB2.out.size))
    clear hb
    go_wp2
    go_ret
    exact ⟨by rw [HE.out]; rfl, HB3.out⟩

/-- What Key answers. -/
def DKeyEnd (W : World) (o : Int) (d : Dat) (e : Ending) (w' : World) : Prop :=
  ((isO o = false ∧ e = .returned (.tuple #[.slice none 0 0, .int .i64 2])) ∨ (isO o = true ∧ fitD o d = false ∧ e = .returned (.tuple #[.slice none 0 0, .int .i64 40])) ∨ (fitD o d = true ∧ ∃ v, e = .returned (.tuple #[v, .int .i64 0]) ∧ OwnB w' W.heap.size v (keyD o d))) ∧ Below W.heap.size W w'
end Go.Proofs.Ytdhnajhfkmmjnaa
