import Derived.Laws.StructEq
import Derived.Test.YthdjlaombbeagaaGreatJORdRead
import Derived.Test.YthdjlaombbeagaaGreatJORdNum
import Derived.Test.YthdjlaombbeagaaGreatJDRefP
import Derived.Test.YthdjlaombbeagaaGreatJFAlike
/-
  CONTRACT: Same (of two lists of parts that are equal); an own row of parts reads as parts.
-/
namespace Go.Proofs.YthdjlaombbeagaaGreat
open Go.RowKit Go.Shelf

theorem flatK {α : Type} (f : α → List Value) (k : Nat) (hk : ∀ x, (f x).length = k) : ∀ (l : List α) (j i : Nat), i < k → (l.flatMap f)[j * k + i]? = l[j]?.bind fun x => (f x)[i]?
  | [], j, i, _ => by simp
  | x :: l, 0, i, hi => by
    rw [List.flatMap_cons, List.getElem?_append_left (by rw [hk]; omega)]
    simp
  | x :: l, j + 1, i, hi => by
    have e : (j + 1) * k + i = k + (j * k + i) := by rw [Nat.succ_mul]; omega
    rw [List.flatMap_cons, e, List.getElem?_append_right (by rw [hk]; omega), hk, Nat.add_sub_cancel_left, flatK f k hk l j i hi]
    simp
theorem OwnP.slp {W : World} {B : Nat} {v : Value} {l : List PartP} (h : OwnP W B v l) : ∃ A c, v = .slice A l.length c ∧ SlP W W.heap.size A l := by
  rcases h.2 with ⟨rfl, h0⟩ | ⟨g, cap, cur, rfl, _, hgb, _⟩
  · exact ⟨none, 0, by rw [h0], fun hl => absurd (List.length_eq_zero_iff.1 h0) hl⟩
  · refine ⟨_, _, rfl, fun _ => ⟨g, 0, rfl, (Array.getElem?_eq_some_iff.1 hgb).1, fun j p hp => ?_⟩⟩
    have hr : W.ownsRow B 113 5 (.slice (some ⟨g, 0, none⟩) l.length cap) l.length (l.flatMap cellsP) := h
    have hj : j < l.length := (List.getElem?_eq_some_iff.1 hp).1
    have hc : ∀ i, i < 5 → W.cell? ⟨g, j * 5 + i, none⟩ = (cellsP p)[i]? := fun i hi => by
      rw [hr.cellAt (j * 5 + i) (by omega), flatK cellsP 5 (fun _ => rfl) l j i hi, hp]; rfl
    rw [Nat.zero_add]
    exact ⟨hc 0 (by omega), hc 1 (by omega), hc 2 (by omega), hc 3 (by omega), hc 4 (by omega)⟩

end Go.Proofs.YthdjlaombbeagaaGreat

/-
  THE LAW OrderReads: its walk.
-/
namespace Go.Proofs.YthdjlaombbeagaaGreat
open Go.RowKit Go.Shelf

theorem SlK.more {W : World} {B B' : Nat} {A : Option Addr} {l : List Bool} (h : SlK W B A l) (hB : B ≤ B') : SlK W B' A l := fun hl => by
  obtain ⟨a, e, hlt, hc⟩ := h hl
  exact ⟨a, e, by omega, hc⟩
end Go.Proofs.YthdjlaombbeagaaGreat

/-
  CONTRACTS of the document's own answer over datoms: entity, May, Has, Compare, Key.
-/
namespace Go.Proofs.YthdjlaombbeagaaGreat
open Go.RowKit

set_option maxHeartbeats 400000 in
theorem rEnt_is (v : Bool) (n : Int) (w : World) (h : entB n = v) : Calls Tryz.prog 76 #[.int .i64 n] w fun e w' => e = .returned (.bool v) ∧ w = w' := by
  subst h
  by_cases h0 : 0 ≤ n
  · by_cases h1 : n < 9007199254740992
    · have e : Hid (entB n = true) := by show _ = _; unfold entB; simp [h0, h1]
      go_enter Tryz.func76, Tryz.ntmps76
      go_wp2
      go_ret
      exact ⟨by rw [e.out]; rfl, rfl⟩
    · have e : Hid (entB n = false) := by show _ = _; unfold entB; simp; omega
      go_enter Tryz.func76, Tryz.ntmps76
      go_wp2
      go_ret
      exact ⟨by rw [e.out]; rfl, rfl⟩
  · have e : Hid (entB n = false) := by show _ = _; unfold entB; simp; omega
    have h0' : decide (0 ≤ n) = false := decide_eq_false h0
    go_enter Tryz.func76, Tryz.ntmps76
    go_wp2
    go_ret
    exact ⟨by rw [e.out]; rfl, rfl⟩

set_option maxRecDepth 100000 in
set_option maxHeartbeats 2000000 in
theorem rMay_any (d : Dat) (w : World) (hs : d.s.size ≤ maxLen) : Calls Tryz.prog 46 #[.agg #[.int .i64 d.e, .int .i64 d.a, .int .i64 d.k, .int .i64 d.m, .string d.s, .int .i64 d.t, .bool d.add, .int .i64 d.fr, .int .i64 d.til]] w fun e w' => e = .returned (.bool (mayD d)) ∧ Below w.heap.size w w' := by
  have HB0 : Hid (Below w.heap.size w (w.alloc (.cells #[.int .i64 d.e, .int .i64 d.a, .int .i64 d.k, .int .i64 d.m, .string d.s, .int .i64 d.t, .bool d.add, .int .i64 d.fr, .int .i64 d.til] 44))) := (Below.refl _ _).alloc (Nat.le_refl _) _
  have HDA := Lib.hid (datAt_new w d)
  have HM : Hid (mayD d = (entB d.e && entB d.a && mayB d.k d.m d.s && txB d.t && decide (d.fr < d.til))) := rfl
  obtain ⟨b1, h1⟩ : ∃ b, entB d.e = b := ⟨_, rfl⟩
  obtain ⟨b2, h2⟩ : ∃ b, entB d.a = b := ⟨_, rfl⟩
  obtain ⟨b3, h3⟩ : ∃ b, mayB d.k d.m d.s = b := ⟨_, rfl⟩
  rw [h1, h2, h3] at HM
  have H1 := Lib.hid h1
  have H2 := Lib.hid h2
  have H3 := Lib.hid h3
  clear h1 h2 h3
  go_enter Tryz.func46, Tryz.ntmps46
  go_wp2_with fail
  refine (rEnt_is b1 d.e _ H1.out).mono ?_
  rintro e w1 ⟨rfl, rfl⟩
  cases b1
  · have HF : Hid (mayD d = false) := HM.out
    go_wp2
    go_ret
    exact ⟨by rw [HF.out]; rfl, HB0.out⟩
  go_wp2_with fail
  refine (rEnt_is b2 d.a _ H2.out).mono ?_
  rintro e w1 ⟨rfl, rfl⟩
  cases b2
  · have HF : Hid (mayD d = false) := HM.out
    go_wp2
    go_ret
    exact ⟨by rw [HF.out]; rfl, HB0.out⟩
  go_wp2_with fail
  refine (refMay_is (m := b3) _ hs H3.out).mono ?_
  rintro e w1 ⟨rfl, hb⟩
  have HB1 := Lib.hid (HB0.out.trans (hb.mono HB0.out.size))
  have hx := HDA.out.next hb (by simp)
  have c5 := hx.c5
  have c7 := hx.c7
  have c8 := hx.c8
  clear hb hx
  cases b3
  · have HF : Hid (mayD d = false) := HM.out
    go_wp2
    go_ret
    exact ⟨by rw [HF.out]; rfl, HB1.out⟩
  by_cases t1 : 1 ≤ d.t
  · by_cases t2 : d.t ≤ 1099511627776
    · have HT : Hid (txB d.t = true) := by show _ = _; unfold txB; simp [t1, t2]
      by_cases t3 : d.fr < d.til
      · have HF : Hid (mayD d = true) := by show _ = _; rw [HM.out, HT.out, decide_eq_true t3]; rfl
        go_wp2
        go_ret
        exact ⟨by rw [HF.out]; rfl, HB1.out⟩
      · have HF : Hid (mayD d = false) := by show _ = _; rw [HM.out, HT.out, decide_eq_false t3]; rfl
        have t3' : decide (d.fr < d.til) = false := decide_eq_false t3
        go_wp2
        go_ret
        exact ⟨by rw [HF.out]; rfl, HB1.out⟩
    · have HT : Hid (txB d.t = false) := by show _ = _; unfold txB; simp; omega
      have HF : Hid (mayD d = false) := by show _ = _; rw [HM.out, HT.out]; rfl
      have t2' : decide (d.t ≤ 1099511627776) = false := decide_eq_false t2
      go_wp2
      go_ret
      exact ⟨by rw [HF.out]; rfl, HB1.out⟩
  · have HT : Hid (txB d.t = false) := by show _ = _; unfold txB; simp; omega
    have HF : Hid (mayD d = false) := by show _ = _; rw [HM.out, HT.out]; rfl
    have t1' : decide (1 ≤ d.t) = false := decide_eq_false t1
    go_wp2
    go_ret
    exact ⟨by rw [HF.out]; rfl, HB1.out⟩

set_option maxRecDepth 100000 in
set_option maxHeartbeats 1000000 in
theorem rHas_any (o : Int) (d : Dat) (w : World) : Calls Tryz.prog 79 #[.int .i64 o, .agg #[.int .i64 d.e, .int .i64 d.a, .int .i64 d.k, .int .i64 d.m, .string d.s, .int .i64 d.t, .bool d.add, .int .i64 d.fr, .int .i64 d.til]] w fun e w' => e = .returned (.bool (hasD o d)) ∧ Below w.heap.size w w' := by
  by_cases h1 : 1 ≤ o
  · by_cases h3 : o ≤ 3
    · have HE : Hid (hasD o d = true) := by show _ = _; unfold hasD; rw [decide_eq_true_eq]; exact .inl ⟨h1, h3⟩
      go_enter Tryz.func79, Tryz.ntmps79
      go_wp2
      go_ret
      exact ⟨by rw [HE.out]; rfl, (Below.refl _ _).alloc (Nat.le_refl _) _⟩
    · have h3' : decide (o ≤ 3) = false := decide_eq_false h3
      by_cases h4 : o = 4
      · subst h4
        by_cases hk : d.k = 5
        · have HE : Hid (hasD 4 d = true) := by show _ = _; unfold hasD; simp [hk]
          have hkq : (d.k == 5) = true := by rw [hk]; rfl
          clear hk
          go_enter Tryz.func79, Tryz.ntmps79
          go_wp2
          go_ret
          exact ⟨by rw [HE.out]; rfl, (Below.refl _ _).alloc (Nat.le_refl _) _⟩
        · have HE : Hid (hasD 4 d = false) := by show _ = _; unfold hasD; simp [hk]
          have hkq : (d.k == 5) = false := by simpa using hk
          clear hk
          go_enter Tryz.func79, Tryz.ntmps79
          go_wp2
          go_ret
          exact ⟨by rw [HE.out]; rfl, (Below.refl _ _).alloc (Nat.le_refl _) _⟩
      · have HE : Hid (hasD o d = false) := by show _ = _; unfold hasD; rw [decide_eq_false_iff_not]; omega
        have h4' : (o == 4) = false := beq_eq_false_iff_ne.2 h4
        clear h4
        go_enter Tryz.func79, Tryz.ntmps79
        go_wp2
        go_ret
        exact ⟨by rw [HE.out]; rfl, (Below.refl _ _).alloc (Nat.le_refl _) _⟩
  · have HE : Hid (hasD o d = false) := by show _ = _; unfold hasD; rw [decide_eq_false_iff_not]; omega
    have h1' : decide (1 ≤ o) = false := decide_eq_false h1
    have h4' : (o == 4) = false := beq_eq_false_iff_ne.2 (by omega)
    go_enter Tryz.func79, Tryz.ntmps79
    go_wp2
    go_ret
    exact ⟨by rw [HE.out]; rfl, (Below.refl _ _).alloc (Nat.le_refl _) _⟩

/-- is it no order? in the walk's words -/
theorem noO {o : Int} (h : isO o = false) : o < 1 ∨ (1 ≤ o ∧ 4 < o) := by
  unfold isO at h
  rw [decide_eq_false_iff_not] at h
  omega
theorem yesO {o : Int} (h : isO o = true) : 1 ≤ o ∧ o ≤ 4 := by
  unfold isO at h
  rw [decide_eq_true_eq] at h
  exact h
end Go.Proofs.YthdjlaombbeagaaGreat

/-
  CONTRACT: the document's Together (layer 6).
-/
namespace Go.Proofs.YthdjlaombbeagaaGreat
open Go.RowKit

/-- does one transaction say two things of an instant? -/
def clashB (a b : Dat) : Bool := alikeB a b && (a.t == b.t) && (a.add != b.add) && decide (a.fr < b.til) && decide (b.fr < a.til)
def TogL (l : List Dat) : Prop := (∀ (i : Nat) (x : Dat), l[i]? = some x → mayD x = true) ∧ ∀ (i k : Nat) (a b : Dat), k < i → l[i]? = some a → l[k]? = some b → clashB a b = false
def TogEnd (w : World) (l : List Dat) (e : Ending) (w' : World) : Prop := ∃ b : Bool, e = .returned (.bool b) ∧ (b = true ↔ TogL l) ∧ Below w.heap.size w w'
set_option maxRecDepth 100000 in
set_option maxHeartbeats 8000000 in
theorem togR_any (A : Option Addr) (c B : Nat) (l : List Dat) (w : World) (hs : SlD w B A l) (hB : B ≤ w.heap.size) (hl : l.length ≤ 1000000) (hsz : ∀ (i : Nat) (x : Dat), l[i]? = some x → x.s.size ≤ maxLen) :
    Calls Tryz.prog 23 #[.slice A l.length c] w (TogEnd w l) := by
  have HS := Lib.hid hs
  have HBW := Lib.hid hB
  have HSZ := Lib.hid hsz
  clear hs hB hsz
  go_enter Tryz.func23, Tryz.ntmps23
  go_wp2_with fail
  go_loopg [3] l.length (fun gk z wr => ∃ (j : Nat), z = .int .i64 (j : Nat) ∧ j + gk = l.length ∧ Hid (∀ (q : Nat) (x : Dat), q < j → l[q]? = some x → mayD x = true) ∧ Hid (Below w.heap.size w wr))
  case atStart => exact ⟨0, rfl, by omega, (fun _ _ h => absurd h (Nat.not_lt_zero _)), Below.refl _ _⟩
  case round =>
    obtain ⟨j, rfl, hj, HM, HB⟩ := hrel
    cases gk with
    | succ gk =>
      have hjz : ((j : Int) < (l.length : Int)) := by omega
      have hjz' : decide ((j : Int) < (l.length : Int)) = true := decide_eq_true hjz
      have hj0 : (0 : Int) ≤ (j : Int) := by omega
      have hjn : j < l.length := by omega
      obtain ⟨ob, oo, rfl, hob, hat⟩ := HS.out.at_ hjn
      obtain ⟨x, hx⟩ : ∃ x, l[j] = x := ⟨_, rfl⟩
      have hp : l[j]? = some x := by rw [List.getElem?_eq_getElem hjn, hx]
      rw [hx] at hat
      have hq := hat.next HB.out (Nat.lt_of_lt_of_le hob HBW.out)
      have q0 := hq.c0
      have q1 := hq.c1
      have q2 := hq.c2
      have q3 := hq.c3
      have q4 := hq.c4
      have q5 := hq.c5
      have q6 := hq.c6
      have q7 := hq.c7
      have q8 := hq.c8
      have HMY := Lib.hid (rMay_any x wr (HSZ.out j x hp))
      obtain ⟨mb, hmb⟩ : ∃ b, mayD x = b := ⟨_, rfl⟩
      rw [hmb] at HMY
      have HMB := Lib.hid hmb
      have HPJ := Lib.hid hp
      clear hat hob hx hp hq hmb
      go_wp2_with fail
      refine HMY.out.mono ?_
      rintro e w2 ⟨rfl, hb2⟩
      have HB2 := Lib.hid (HB.out.trans (hb2.mono HB.out.size))
      clear hb2 q0 q1 q2 q3 q4 q5 q6 q7 q8
      cases mb with
      | false =>
        have HF : Hid (TogEnd w l (.returned (.bool false)) w2) := ⟨false, rfl, ⟨(fun h => by cases h), fun h => by have := h.1 j x HPJ.out; rw [HMB.out] at this; exact this⟩, HB2.out⟩
        go_wp2
        go_ret
        exact HF.out
      | true =>
        have HM2 : Hid (∀ (q : Nat) (x : Dat), q < j + 1 → l[q]? = some x → mayD x = true) := fun q y hq hy => by
          by_cases e : q = j
          · subst e
            rw [HPJ.out] at hy
            cases hy
            exact HMB.out
          · exact HM.out q y (by omega) hy
        go_wp2
        go_roundg gk
        case measure => omega
        case rel => exact ⟨j + 1, by go_num, by omega, HM2.out, HB2.out⟩
    | zero =>
      have hjz : ¬ ((j : Int) < (l.length : Int)) := by omega
      have hjz' : decide ((j : Int) < (l.length : Int)) = false := decide_eq_false hjz
      have HMA : Hid (∀ (i : Nat) (x : Dat), l[i]? = some x → mayD x = true) := fun i x hi => HM.out i x (by have := (List.getElem?_eq_some_iff.1 hi).1; omega) hi
      go_wp2_with fail
      clear hjz hjz' hj HM
      go_loopg [5, 6] l.length (fun gk z _z6 wr => ∃ (i : Nat), z = .int .i64 (i : Nat) ∧ i + gk = l.length ∧ Hid (∀ (p k : Nat) (a b : Dat), p < i → k < p → l[p]? = some a → l[k]? = some b → clashB a b = false) ∧ Hid (Below w.heap.size w wr))
      case atStart => exact ⟨0, rfl, by omega, (fun _ _ _ _ h => absurd h (Nat.not_lt_zero _)), HB.out⟩
      case round =>
        clear HB
        obtain ⟨i, rfl, hi, HC, HB⟩ := hrel
        cases gk with
        | zero =>
          have hiz : ¬ ((i : Int) < (l.length : Int)) := by omega
          have hiz' : decide ((i : Int) < (l.length : Int)) = false := decide_eq_false hiz
          have HF : Hid (TogEnd w l (.returned (.bool true)) wr) := ⟨true, rfl, ⟨fun _ => ⟨HMA.out, fun p k a b hk ha hb => HC.out p k a b (by have := (List.getElem?_eq_some_iff.1 ha).1; omega) hk ha hb⟩, fun _ => rfl⟩, HB.out⟩
          go_wp2
          go_ret
          exact HF.out
        | succ gk0 =>
          have hiz : ((i : Int) < (l.length : Int)) := by omega
          have hiz' : decide ((i : Int) < (l.length : Int)) = true := decide_eq_true hiz
          have hi0 : (0 : Int) ≤ (i : Int) := by omega
          have hin : i < l.length := by omega
          obtain ⟨ob, oo, rfl, hob, hat⟩ := HS.out.at_ hin
          obtain ⟨x, hx⟩ : ∃ x, l[i] = x := ⟨_, rfl⟩
          have hp : l[i]? = some x := by rw [List.getElem?_eq_getElem hin, hx]
          rw [hx] at hat
          have HX : Hid (∀ X, Below w.heap.size w X → DtAt X ob (oo + i * 9) x) := fun X hX => hat.next hX (Nat.lt_of_lt_of_le hob HBW.out)
          have HPI := Lib.hid hp
          clear hat hob hx hp
          go_wp2_with fail
          go_loopg [6] i (fun gk z wr => ∃ (k : Nat), z = .int .i64 (k : Nat) ∧ k + gk = i ∧ Hid (∀ (q : Nat) (b : Dat), q < k → l[q]? = some b → clashB x b = false) ∧ Hid (Below w.heap.size w wr))
          case atStart => exact ⟨0, rfl, by omega, (fun _ _ h => absurd h (Nat.not_lt_zero _)), HB.out⟩
          case round =>
            clear HB
            obtain ⟨k, rfl, hk, HQ, HB⟩ := hrel
            cases gk with
            | zero =>
              have hkz : ¬ ((k : Int) < (i : Int)) := by omega
              have hkz' : decide ((k : Int) < (i : Int)) = false := decide_eq_false hkz
              have HC2 : Hid (∀ (p q : Nat) (a b : Dat), p < i + 1 → q < p → l[p]? = some a → l[q]? = some b → clashB a b = false) := fun p q a b hp hq ha hb => by
                by_cases e : p = i
                · subst e
                  rw [HPI.out] at ha
                  cases ha
                  exact HQ.out q b (by omega) hb
                · exact HC.out p q a b (by omega) hq ha hb
              go_wp2
              go_roundg gk0
              case measure => omega
              case rel => exact ⟨i + 1, by go_num, by omega, HC2.out, HB.out⟩
            | succ gk =>
              have hkz : ((k : Int) < (i : Int)) := by omega
              have hkz' : decide ((k : Int) < (i : Int)) = true := decide_eq_true hkz
              have hk0 : (0 : Int) ≤ (k : Int) := by omega
              have hkn : k < l.length := by omega
              have hkl : (k : Int) < (l.length : Int) := by omega
              obtain ⟨ob2, oo2, e2, hob, hat⟩ := HS.out.at_ hkn
              obtain ⟨rfl, rfl⟩ : ob = ob2 ∧ oo = oo2 := by injection e2 with e2; injection e2 with e3 e4; exact ⟨e3, e4⟩
              obtain ⟨y, hy⟩ : ∃ y, l[k] = y := ⟨_, rfl⟩
              have hp : l[k]? = some y := by rw [List.getElem?_eq_getElem hkn, hy]
              rw [hy] at hat
              have HY : Hid (∀ X, Below w.heap.size w X → DtAt X ob (oo + k * 9) y) := fun X hX => hat.next hX (Nat.lt_of_lt_of_le hob HBW.out)
              have HPK := Lib.hid hp
              obtain ⟨al, hal⟩ : ∃ al, alikeB x y = al := ⟨_, rfl⟩
              have HAL := Lib.hid hal
              clear e2 hat hob hy hp hal
              cases al with
              | false =>
                have HE : Hid (clashB x y = false) := by show _ = _; unfold clashB; simp [HAL.out]
                go_wp2_with fail
                have HS0 := Lib.hid (HB.out.trans ((qd_dn (Below.refl wr.heap.size wr) 1).mono HB.out.size))
                obtain ⟨wz, hwz⟩ : ∃ X, wr.drew = X := ⟨_, rfl⟩
                refine wp_region_held_drew (S := fun X => Below w.heap.size w X) (by kernel_rfl) HS0.out (fun hHeld => ?_)
                rw [hwz] at hHeld ⊢
                clear hwz HS0
                refine takeQ 0 31 ((.slice (some ⟨ob, oo, none⟩) l.length c)) ?_
                simp only [Act.put, List.setIfInBounds_toArray, List.set_cons_zero, List.set_cons_succ]
                refine takeQ 1 32 ((.int .i64 (i : Nat))) ?_
                simp only [Act.put, List.setIfInBounds_toArray, List.set_cons_zero, List.set_cons_succ]
                refine takeQ 2 33 ((.pointer (some ⟨ob, oo + i * 9, none⟩))) ?_
                simp only [Act.put, List.setIfInBounds_toArray, List.set_cons_zero, List.set_cons_succ]
                refine takeQ 3 34 ((.agg #[.int .i64 x.e, .int .i64 x.a, .int .i64 x.k, .int .i64 x.m, .string x.s, .int .i64 x.t, .bool x.add, .int .i64 x.fr, .int .i64 x.til])) ?_ (hy := by (intro _w hSw; have hq := HX.out _ hSw; have q0 := hq.c0; have q1 := hq.c1; have q2 := hq.c2; have q3 := hq.c3; have q4 := hq.c4; have q5 := hq.c5; have q6 := hq.c6; have q7 := hq.c7; have q8 := hq.c8; clear hSw; go_simp))
                simp only [Act.put, List.setIfInBounds_toArray, List.set_cons_zero, List.set_cons_succ]
                refine takeQ 4 35 ((.slice (some ⟨ob, oo, none⟩) l.length c)) ?_
                simp only [Act.put, List.setIfInBounds_toArray, List.set_cons_zero, List.set_cons_succ]
                refine takeQ 5 36 ((.int .i64 (k : Nat))) ?_
                simp only [Act.put, List.setIfInBounds_toArray, List.set_cons_zero, List.set_cons_succ]
                refine takeQ 6 37 ((.pointer (some ⟨ob, oo + k * 9, none⟩))) ?_
                simp only [Act.put, List.setIfInBounds_toArray, List.set_cons_zero, List.set_cons_succ]
                refine takeQ 7 38 ((.agg #[.int .i64 y.e, .int .i64 y.a, .int .i64 y.k, .int .i64 y.m, .string y.s, .int .i64 y.t, .bool y.add, .int .i64 y.fr, .int .i64 y.til])) ?_ (hy := by (intro _w hSw; have hq := HY.out _ hSw; have q0 := hq.c0; have q1 := hq.c1; have q2 := hq.c2; have q3 := hq.c3; have q4 := hq.c4; have q5 := hq.c5; have q6 := hq.c6; have q7 := hq.c7; have q8 := hq.c8; clear hSw; go_simp))
                simp only [Act.put, List.setIfInBounds_toArray, List.set_cons_zero, List.set_cons_succ]
                refine callV 8 rfl (by kernel_rfl) (by rfl) (fun K hK => ?_)
                go_simp
                refine (alike_any x y _).mono ?_
                rintro e wf ⟨rfl, hbf⟩
                rw [HAL.out]
                refine hK.out _ _ (hHeld.trans (hbf.mono hHeld.size)) (fun hHeld2 => ?_)
                clear hbf
                clear hK K hHeld
                have hHeld := hHeld2
                clear hHeld2
                try simp only [Act.put, List.setIfInBounds_toArray, List.set_cons_zero, List.set_cons_succ]
                refine takeQ 9 40 ((.bool false)) ?_
                simp only [Act.put, List.setIfInBounds_toArray, List.set_cons_zero, List.set_cons_succ]
                refine skipQ 10 41 ?_
                simp only [Act.put, List.setIfInBounds_toArray, List.set_cons_zero, List.set_cons_succ]
                refine skipQ 11 42 ?_
                simp only [Act.put, List.setIfInBounds_toArray, List.set_cons_zero, List.set_cons_succ]
                refine skipQ 12 43 ?_
                simp only [Act.put, List.setIfInBounds_toArray, List.set_cons_zero, List.set_cons_succ]
                refine skipQ 13 44 ?_
                simp only [Act.put, List.setIfInBounds_toArray, List.set_cons_zero, List.set_cons_succ]
                refine skipQ 14 45 ?_
                simp only [Act.put, List.setIfInBounds_toArray, List.set_cons_zero, List.set_cons_succ]
                refine skipQ 15 46 ?_
                simp only [Act.put, List.setIfInBounds_toArray, List.set_cons_zero, List.set_cons_succ]
                refine skipQ 16 47 ?_
                simp only [Act.put, List.setIfInBounds_toArray, List.set_cons_zero, List.set_cons_succ]
                refine skipQ 17 48 ?_
                simp only [Act.put, List.setIfInBounds_toArray, List.set_cons_zero, List.set_cons_succ]
                refine skipQ 18 49 ?_
                simp only [Act.put, List.setIfInBounds_toArray, List.set_cons_zero, List.set_cons_succ]
                refine skipQ 19 50 ?_
                simp only [Act.put, List.setIfInBounds_toArray, List.set_cons_zero, List.set_cons_succ]
                refine skipQ 20 51 ?_
                simp only [Act.put, List.setIfInBounds_toArray, List.set_cons_zero, List.set_cons_succ]
                refine takeQ 21 52 ((.bool false)) ?_
                simp only [Act.put, List.setIfInBounds_toArray, List.set_cons_zero, List.set_cons_succ]
                refine takeQ 22 53 ((.bool false)) ?_
                simp only [Act.put, List.setIfInBounds_toArray, List.set_cons_zero, List.set_cons_succ]
                refine skipQ 23 54 ?_
                simp only [Act.put, List.setIfInBounds_toArray, List.set_cons_zero, List.set_cons_succ]
                refine skipQ 24 55 ?_
                simp only [Act.put, List.setIfInBounds_toArray, List.set_cons_zero, List.set_cons_succ]
                refine skipQ 25 56 ?_
                simp only [Act.put, List.setIfInBounds_toArray, List.set_cons_zero, List.set_cons_succ]
                refine skipQ 26 57 ?_
                simp only [Act.put, List.setIfInBounds_toArray, List.set_cons_zero, List.set_cons_succ]
                refine skipQ 27 58 ?_
                simp only [Act.put, List.setIfInBounds_toArray, List.set_cons_zero, List.set_cons_succ]
                refine skipQ 28 59 ?_
                simp only [Act.put, List.setIfInBounds_toArray, List.set_cons_zero, List.set_cons_succ]
                refine skipQ 29 60 ?_
                simp only [Act.put, List.setIfInBounds_toArray, List.set_cons_zero, List.set_cons_succ]
                refine skipQ 30 61 ?_
                simp only [Act.put, List.setIfInBounds_toArray, List.set_cons_zero, List.set_cons_succ]
                refine skipQ 31 62 ?_
                simp only [Act.put, List.setIfInBounds_toArray, List.set_cons_zero, List.set_cons_succ]
                refine skipQ 32 63 ?_
                simp only [Act.put, List.setIfInBounds_toArray, List.set_cons_zero, List.set_cons_succ]
                refine skipQ 33 64 ?_
                simp only [Act.put, List.setIfInBounds_toArray, List.set_cons_zero, List.set_cons_succ]
                refine takeQ 34 65 ((.bool false)) ?_
                simp only [Act.put, List.setIfInBounds_toArray, List.set_cons_zero, List.set_cons_succ]
                refine takeQ 35 66 ((.bool false)) ?_
                simp only [Act.put, List.setIfInBounds_toArray, List.set_cons_zero, List.set_cons_succ]
                refine skipQ 36 67 ?_
                simp only [Act.put, List.setIfInBounds_toArray, List.set_cons_zero, List.set_cons_succ]
                refine skipQ 37 68 ?_
                simp only [Act.put, List.setIfInBounds_toArray, List.set_cons_zero, List.set_cons_succ]
                refine skipQ 38 69 ?_
                simp only [Act.put, List.setIfInBounds_toArray, List.set_cons_zero, List.set_cons_succ]
                refine skipQ 39 70 ?_
                simp only [Act.put, List.setIfInBounds_toArray, List.set_cons_zero, List.set_cons_succ]
                refine skipQ 40 71 ?_
                simp only [Act.put, List.setIfInBounds_toArray, List.set_cons_zero, List.set_cons_succ]
                refine skipQ 41 72 ?_
                simp only [Act.put, List.setIfInBounds_toArray, List.set_cons_zero, List.set_cons_succ]
                refine skipQ 42 73 ?_
                simp only [Act.put, List.setIfInBounds_toArray, List.set_cons_zero, List.set_cons_succ]
                refine skipQ 43 74 ?_
                simp only [Act.put, List.setIfInBounds_toArray, List.set_cons_zero, List.set_cons_succ]
                refine skipQ 44 75 ?_
                simp only [Act.put, List.setIfInBounds_toArray, List.set_cons_zero, List.set_cons_succ]
                refine skipQ 45 76 ?_
                simp only [Act.put, List.setIfInBounds_toArray, List.set_cons_zero, List.set_cons_succ]
                refine skipQ 46 77 ?_
                simp only [Act.put, List.setIfInBounds_toArray, List.set_cons_zero, List.set_cons_succ]
                refine takeQ 47 78 ((.bool false)) ?_
                simp only [Act.put, List.setIfInBounds_toArray, List.set_cons_zero, List.set_cons_succ]
                refine takeQ 48 79 ((.bool false)) ?_
                simp only [Act.put, List.setIfInBounds_toArray, List.set_cons_zero, List.set_cons_succ]
                refine skipQ 49 80 ?_
                simp only [Act.put, List.setIfInBounds_toArray, List.set_cons_zero, List.set_cons_succ]
                refine skipQ 50 81 ?_
                simp only [Act.put, List.setIfInBounds_toArray, List.set_cons_zero, List.set_cons_succ]
                refine skipQ 51 82 ?_
                simp only [Act.put, List.setIfInBounds_toArray, List.set_cons_zero, List.set_cons_succ]
                refine skipQ 52 83 ?_
                simp only [Act.put, List.setIfInBounds_toArray, List.set_cons_zero, List.set_cons_succ]
                refine skipQ 53 84 ?_
                simp only [Act.put, List.setIfInBounds_toArray, List.set_cons_zero, List.set_cons_succ]
                refine skipQ 54 85 ?_
                simp only [Act.put, List.setIfInBounds_toArray, List.set_cons_zero, List.set_cons_succ]
                refine skipQ 55 86 ?_
                simp only [Act.put, List.setIfInBounds_toArray, List.set_cons_zero, List.set_cons_succ]
                refine skipQ 56 87 ?_
                simp only [Act.put, List.setIfInBounds_toArray, List.set_cons_zero, List.set_cons_succ]
                refine skipQ 57 88 ?_
                simp only [Act.put, List.setIfInBounds_toArray, List.set_cons_zero, List.set_cons_succ]
                refine skipQ 58 89 ?_
                simp only [Act.put, List.setIfInBounds_toArray, List.set_cons_zero, List.set_cons_succ]
                refine skipQ 59 90 ?_
                simp only [Act.put, List.setIfInBounds_toArray, List.set_cons_zero, List.set_cons_succ]
                refine takeQ 60 91 ((.bool false)) ?_
                simp only [Act.put, List.setIfInBounds_toArray, List.set_cons_zero, List.set_cons_succ]
                refine wpAnyH_done (by kernel_rfl) ?_ _
                have HBR := Lib.hid hHeld
                clear hHeld
                have HQ2 : Hid (∀ (q : Nat) (b : Dat), q < k + 1 → l[q]? = some b → clashB x b = false) := fun q b hq hb => by
                  by_cases e : q = k
                  · subst e
                    rw [HPK.out] at hb
                    cases hb
                    exact HE.out
                  · exact HQ.out q b (by omega) hb
                go_wp2
                go_roundg gk
                case measure => omega
                case rel => exact ⟨k + 1, by go_num, by omega, HQ2.out, HBR.out⟩
              | true =>
                by_cases g1 : x.t = y.t
                · have g1' : (x.t == y.t) = true := beq_iff_eq.2 g1
                  by_cases g2 : x.add ≠ y.add
                  · have g2' : (x.add == y.add) = false := beq_eq_false_iff_ne.2 g2
                    by_cases g3 : x.fr < y.til
                    · have g3' : decide (x.fr < y.til) = true := decide_eq_true g3
                      by_cases g4 : y.fr < x.til
                      · have g4' : decide (y.fr < x.til) = true := decide_eq_true g4
                        have HE : Hid (clashB x y = true) := by show _ = _; unfold clashB bne; rw [HAL.out, g1', g2', g3', g4']; rfl
                        clear g1 g2 g3 g4
                        go_wp2_with fail
                        have HS0 := Lib.hid (HB.out.trans ((qd_dn (Below.refl wr.heap.size wr) 1).mono HB.out.size))
                        obtain ⟨wz, hwz⟩ : ∃ X, wr.drew = X := ⟨_, rfl⟩
                        refine wp_region_held_drew (S := fun X => Below w.heap.size w X) (by kernel_rfl) HS0.out (fun hHeld => ?_)
                        rw [hwz] at hHeld ⊢
                        clear hwz HS0
                        refine takeQ 0 31 ((.slice (some ⟨ob, oo, none⟩) l.length c)) ?_
                        simp only [Act.put, List.setIfInBounds_toArray, List.set_cons_zero, List.set_cons_succ]
                        refine takeQ 1 32 ((.int .i64 (i : Nat))) ?_
                        simp only [Act.put, List.setIfInBounds_toArray, List.set_cons_zero, List.set_cons_succ]
                        refine takeQ 2 33 ((.pointer (some ⟨ob, oo + i * 9, none⟩))) ?_
                        simp only [Act.put, List.setIfInBounds_toArray, List.set_cons_zero, List.set_cons_succ]
                        refine takeQ 3 34 ((.agg #[.int .i64 x.e, .int .i64 x.a, .int .i64 x.k, .int .i64 x.m, .string x.s, .int .i64 x.t, .bool x.add, .int .i64 x.fr, .int .i64 x.til])) ?_ (hy := by (intro _w hSw; have hq := HX.out _ hSw; have q0 := hq.c0; have q1 := hq.c1; have q2 := hq.c2; have q3 := hq.c3; have q4 := hq.c4; have q5 := hq.c5; have q6 := hq.c6; have q7 := hq.c7; have q8 := hq.c8; clear hSw; go_simp))
                        simp only [Act.put, List.setIfInBounds_toArray, List.set_cons_zero, List.set_cons_succ]
                        refine takeQ 4 35 ((.slice (some ⟨ob, oo, none⟩) l.length c)) ?_
                        simp only [Act.put, List.setIfInBounds_toArray, List.set_cons_zero, List.set_cons_succ]
                        refine takeQ 5 36 ((.int .i64 (k : Nat))) ?_
                        simp only [Act.put, List.setIfInBounds_toArray, List.set_cons_zero, List.set_cons_succ]
                        refine takeQ 6 37 ((.pointer (some ⟨ob, oo + k * 9, none⟩))) ?_
                        simp only [Act.put, List.setIfInBounds_toArray, List.set_cons_zero, List.set_cons_succ]
                        refine takeQ 7 38 ((.agg #[.int .i64 y.e, .int .i64 y.a, .int .i64 y.k, .int .i64 y.m, .string y.s, .int .i64 y.t, .bool y.add, .int .i64 y.fr, .int .i64 y.til])) ?_ (hy := by (intro _w hSw; have hq := HY.out _ hSw; have q0 := hq.c0; have q1 := hq.c1; have q2 := hq.c2; have q3 := hq.c3; have q4 := hq.c4; have q5 := hq.c5; have q6 := hq.c6; have q7 := hq.c7; have q8 := hq.c8; clear hSw; go_simp))
                        simp only [Act.put, List.setIfInBounds_toArray, List.set_cons_zero, List.set_cons_succ]
                        refine callV 8 rfl (by kernel_rfl) (by rfl) (fun K hK => ?_)
                        go_simp
                        refine (alike_any x y _).mono ?_
                        rintro e wf ⟨rfl, hbf⟩
                        rw [HAL.out]
                        refine hK.out _ _ (hHeld.trans (hbf.mono hHeld.size)) (fun hHeld2 => ?_)
                        clear hbf
                        clear hK K hHeld
                        have hHeld := hHeld2
                        clear hHeld2
                        try simp only [Act.put, List.setIfInBounds_toArray, List.set_cons_zero, List.set_cons_succ]
                        refine takeQ 9 40 ((.bool true)) ?_
                        simp only [Act.put, List.setIfInBounds_toArray, List.set_cons_zero, List.set_cons_succ]
                        refine takeQ 10 41 ((.slice (some ⟨ob, oo, none⟩) l.length c)) ?_
                        simp only [Act.put, List.setIfInBounds_toArray, List.set_cons_zero, List.set_cons_succ]
                        refine takeQ 11 42 ((.int .i64 (i : Nat))) ?_
                        simp only [Act.put, List.setIfInBounds_toArray, List.set_cons_zero, List.set_cons_succ]
                        refine takeQ 12 43 ((.pointer (some ⟨ob, oo + i * 9, none⟩))) ?_
                        simp only [Act.put, List.setIfInBounds_toArray, List.set_cons_zero, List.set_cons_succ]
                        refine takeQ 13 44 ((.pointer (some ⟨ob, oo + i * 9 + 5, none⟩))) ?_
                        simp only [Act.put, List.setIfInBounds_toArray, List.set_cons_zero, List.set_cons_succ]
                        refine takeQ 14 45 ((.int .i64 x.t)) ?_ (hy := by (intro _w hSw; have q0 := (HX.out _ hSw).c5; clear hSw; go_simp))
                        simp only [Act.put, List.setIfInBounds_toArray, List.set_cons_zero, List.set_cons_succ]
                        refine takeQ 15 46 ((.slice (some ⟨ob, oo, none⟩) l.length c)) ?_
                        simp only [Act.put, List.setIfInBounds_toArray, List.set_cons_zero, List.set_cons_succ]
                        refine takeQ 16 47 ((.int .i64 (k : Nat))) ?_
                        simp only [Act.put, List.setIfInBounds_toArray, List.set_cons_zero, List.set_cons_succ]
                        refine takeQ 17 48 ((.pointer (some ⟨ob, oo + k * 9, none⟩))) ?_
                        simp only [Act.put, List.setIfInBounds_toArray, List.set_cons_zero, List.set_cons_succ]
                        refine takeQ 18 49 ((.pointer (some ⟨ob, oo + k * 9 + 5, none⟩))) ?_
                        simp only [Act.put, List.setIfInBounds_toArray, List.set_cons_zero, List.set_cons_succ]
                        refine takeQ 19 50 ((.int .i64 y.t)) ?_ (hy := by (intro _w hSw; have q0 := (HY.out _ hSw).c5; clear hSw; go_simp))
                        simp only [Act.put, List.setIfInBounds_toArray, List.set_cons_zero, List.set_cons_succ]
                        refine takeQ 20 51 ((.bool true)) ?_
                        simp only [Act.put, List.setIfInBounds_toArray, List.set_cons_zero, List.set_cons_succ]
                        refine takeQ 21 52 ((.bool true)) ?_
                        simp only [Act.put, List.setIfInBounds_toArray, List.set_cons_zero, List.set_cons_succ]
                        refine takeQ 22 53 ((.bool true)) ?_
                        simp only [Act.put, List.setIfInBounds_toArray, List.set_cons_zero, List.set_cons_succ]
                        refine takeQ 23 54 ((.slice (some ⟨ob, oo, none⟩) l.length c)) ?_
                        simp only [Act.put, List.setIfInBounds_toArray, List.set_cons_zero, List.set_cons_succ]
                        refine takeQ 24 55 ((.int .i64 (i : Nat))) ?_
                        simp only [Act.put, List.setIfInBounds_toArray, List.set_cons_zero, List.set_cons_succ]
                        refine takeQ 25 56 ((.pointer (some ⟨ob, oo + i * 9, none⟩))) ?_
                        simp only [Act.put, List.setIfInBounds_toArray, List.set_cons_zero, List.set_cons_succ]
                        refine takeQ 26 57 ((.pointer (some ⟨ob, oo + i * 9 + 6, none⟩))) ?_
                        simp only [Act.put, List.setIfInBounds_toArray, List.set_cons_zero, List.set_cons_succ]
                        refine takeQ 27 58 ((.bool x.add)) ?_ (hy := by (intro _w hSw; have q0 := (HX.out _ hSw).c6; clear hSw; go_simp))
                        simp only [Act.put, List.setIfInBounds_toArray, List.set_cons_zero, List.set_cons_succ]
                        refine takeQ 28 59 ((.slice (some ⟨ob, oo, none⟩) l.length c)) ?_
                        simp only [Act.put, List.setIfInBounds_toArray, List.set_cons_zero, List.set_cons_succ]
                        refine takeQ 29 60 ((.int .i64 (k : Nat))) ?_
                        simp only [Act.put, List.setIfInBounds_toArray, List.set_cons_zero, List.set_cons_succ]
                        refine takeQ 30 61 ((.pointer (some ⟨ob, oo + k * 9, none⟩))) ?_
                        simp only [Act.put, List.setIfInBounds_toArray, List.set_cons_zero, List.set_cons_succ]
                        refine takeQ 31 62 ((.pointer (some ⟨ob, oo + k * 9 + 6, none⟩))) ?_
                        simp only [Act.put, List.setIfInBounds_toArray, List.set_cons_zero, List.set_cons_succ]
                        refine takeQ 32 63 ((.bool y.add)) ?_ (hy := by (intro _w hSw; have q0 := (HY.out _ hSw).c6; clear hSw; go_simp))
                        simp only [Act.put, List.setIfInBounds_toArray, List.set_cons_zero, List.set_cons_succ]
                        refine takeQ 33 64 ((.bool true)) ?_
                        simp only [Act.put, List.setIfInBounds_toArray, List.set_cons_zero, List.set_cons_succ]
                        refine takeQ 34 65 ((.bool true)) ?_
                        simp only [Act.put, List.setIfInBounds_toArray, List.set_cons_zero, List.set_cons_succ]
                        refine takeQ 35 66 ((.bool true)) ?_
                        simp only [Act.put, List.setIfInBounds_toArray, List.set_cons_zero, List.set_cons_succ]
                        refine takeQ 36 67 ((.slice (some ⟨ob, oo, none⟩) l.length c)) ?_
                        simp only [Act.put, List.setIfInBounds_toArray, List.set_cons_zero, List.set_cons_succ]
                        refine takeQ 37 68 ((.int .i64 (i : Nat))) ?_
                        simp only [Act.put, List.setIfInBounds_toArray, List.set_cons_zero, List.set_cons_succ]
                        refine takeQ 38 69 ((.pointer (some ⟨ob, oo + i * 9, none⟩))) ?_
                        simp only [Act.put, List.setIfInBounds_toArray, List.set_cons_zero, List.set_cons_succ]
                        refine takeQ 39 70 ((.pointer (some ⟨ob, oo + i * 9 + 7, none⟩))) ?_
                        simp only [Act.put, List.setIfInBounds_toArray, List.set_cons_zero, List.set_cons_succ]
                        refine takeQ 40 71 ((.int .i64 x.fr)) ?_ (hy := by (intro _w hSw; have q0 := (HX.out _ hSw).c7; clear hSw; go_simp))
                        simp only [Act.put, List.setIfInBounds_toArray, List.set_cons_zero, List.set_cons_succ]
                        refine takeQ 41 72 ((.slice (some ⟨ob, oo, none⟩) l.length c)) ?_
                        simp only [Act.put, List.setIfInBounds_toArray, List.set_cons_zero, List.set_cons_succ]
                        refine takeQ 42 73 ((.int .i64 (k : Nat))) ?_
                        simp only [Act.put, List.setIfInBounds_toArray, List.set_cons_zero, List.set_cons_succ]
                        refine takeQ 43 74 ((.pointer (some ⟨ob, oo + k * 9, none⟩))) ?_
                        simp only [Act.put, List.setIfInBounds_toArray, List.set_cons_zero, List.set_cons_succ]
                        refine takeQ 44 75 ((.pointer (some ⟨ob, oo + k * 9 + 8, none⟩))) ?_
                        simp only [Act.put, List.setIfInBounds_toArray, List.set_cons_zero, List.set_cons_succ]
                        refine takeQ 45 76 ((.int .i64 y.til)) ?_ (hy := by (intro _w hSw; have q0 := (HY.out _ hSw).c8; clear hSw; go_simp))
                        simp only [Act.put, List.setIfInBounds_toArray, List.set_cons_zero, List.set_cons_succ]
                        refine takeQ 46 77 ((.bool true)) ?_
                        simp only [Act.put, List.setIfInBounds_toArray, List.set_cons_zero, List.set_cons_succ]
                        refine takeQ 47 78 ((.bool true)) ?_
                        simp only [Act.put, List.setIfInBounds_toArray, List.set_cons_zero, List.set_cons_succ]
                        refine takeQ 48 79 ((.bool true)) ?_
                        simp only [Act.put, List.setIfInBounds_toArray, List.set_cons_zero, List.set_cons_succ]
                        refine takeQ 49 80 ((.slice (some ⟨ob, oo, none⟩) l.length c)) ?_
                        simp only [Act.put, List.setIfInBounds_toArray, List.set_cons_zero, List.set_cons_succ]
                        refine takeQ 50 81 ((.int .i64 (k : Nat))) ?_
                        simp only [Act.put, List.setIfInBounds_toArray, List.set_cons_zero, List.set_cons_succ]
                        refine takeQ 51 82 ((.pointer (some ⟨ob, oo + k * 9, none⟩))) ?_
                        simp only [Act.put, List.setIfInBounds_toArray, List.set_cons_zero, List.set_cons_succ]
                        refine takeQ 52 83 ((.pointer (some ⟨ob, oo + k * 9 + 7, none⟩))) ?_
                        simp only [Act.put, List.setIfInBounds_toArray, List.set_cons_zero, List.set_cons_succ]
                        refine takeQ 53 84 ((.int .i64 y.fr)) ?_ (hy := by (intro _w hSw; have q0 := (HY.out _ hSw).c7; clear hSw; go_simp))
                        simp only [Act.put, List.setIfInBounds_toArray, List.set_cons_zero, List.set_cons_succ]
                        refine takeQ 54 85 ((.slice (some ⟨ob, oo, none⟩) l.length c)) ?_
                        simp only [Act.put, List.setIfInBounds_toArray, List.set_cons_zero, List.set_cons_succ]
                        refine takeQ 55 86 ((.int .i64 (i : Nat))) ?_
                        simp only [Act.put, List.setIfInBounds_toArray, List.set_cons_zero, List.set_cons_succ]
                        refine takeQ 56 87 ((.pointer (some ⟨ob, oo + i * 9, none⟩))) ?_
                        simp only [Act.put, List.setIfInBounds_toArray, List.set_cons_zero, List.set_cons_succ]
                        refine takeQ 57 88 ((.pointer (some ⟨ob, oo + i * 9 + 8, none⟩))) ?_
                        simp only [Act.put, List.setIfInBounds_toArray, List.set_cons_zero, List.set_cons_succ]
                        refine takeQ 58 89 ((.int .i64 x.til)) ?_ (hy := by (intro _w hSw; have q0 := (HX.out _ hSw).c8; clear hSw; go_simp))
                        simp only [Act.put, List.setIfInBounds_toArray, List.set_cons_zero, List.set_cons_succ]
                        refine takeQ 59 90 ((.bool true)) ?_
                        simp only [Act.put, List.setIfInBounds_toArray, List.set_cons_zero, List.set_cons_succ]
                        refine takeQ 60 91 ((.bool true)) ?_
                        simp only [Act.put, List.setIfInBounds_toArray, List.set_cons_zero, List.set_cons_succ]
                        refine wpAnyH_done (by kernel_rfl) ?_ _
                        have HBR := Lib.hid hHeld
                        clear hHeld
                        have HF : Hid (TogEnd w l (.returned (.bool false)) wf) := ⟨false, rfl, ⟨(fun h => by cases h), fun h => by have := h.2 i k x y (by omega) HPI.out HPK.out; rw [HE.out] at this; cases this⟩, HBR.out⟩
                        go_wp2
                        go_ret
                        exact HF.out
                      · have g4' : decide (y.fr < x.til) = false := decide_eq_false g4
                        have HE : Hid (clashB x y = false) := by show _ = _; unfold clashB bne; rw [HAL.out, g1', g2', g3', g4']; rfl
                        clear g1 g2 g3 g4
                        go_wp2_with fail
                        have HS0 := Lib.hid (HB.out.trans ((qd_dn (Below.refl wr.heap.size wr) 1).mono HB.out.size))
                        obtain ⟨wz, hwz⟩ : ∃ X, wr.drew = X := ⟨_, rfl⟩
                        refine wp_region_held_drew (S := fun X => Below w.heap.size w X) (by kernel_rfl) HS0.out (fun hHeld => ?_)
                        rw [hwz] at hHeld ⊢
                        clear hwz HS0
                        refine takeQ 0 31 ((.slice (some ⟨ob, oo, none⟩) l.length c)) ?_
                        simp only [Act.put, List.setIfInBounds_toArray, List.set_cons_zero, List.set_cons_succ]
                        refine takeQ 1 32 ((.int .i64 (i : Nat))) ?_
                        simp only [Act.put, List.setIfInBounds_toArray, List.set_cons_zero, List.set_cons_succ]
                        refine takeQ 2 33 ((.pointer (some ⟨ob, oo + i * 9, none⟩))) ?_
                        simp only [Act.put, List.setIfInBounds_toArray, List.set_cons_zero, List.set_cons_succ]
                        refine takeQ 3 34 ((.agg #[.int .i64 x.e, .int .i64 x.a, .int .i64 x.k, .int .i64 x.m, .string x.s, .int .i64 x.t, .bool x.add, .int .i64 x.fr, .int .i64 x.til])) ?_ (hy := by (intro _w hSw; have hq := HX.out _ hSw; have q0 := hq.c0; have q1 := hq.c1; have q2 := hq.c2; have q3 := hq.c3; have q4 := hq.c4; have q5 := hq.c5; have q6 := hq.c6; have q7 := hq.c7; have q8 := hq.c8; clear hSw; go_simp))
                        simp only [Act.put, List.setIfInBounds_toArray, List.set_cons_zero, List.set_cons_succ]
                        refine takeQ 4 35 ((.slice (some ⟨ob, oo, none⟩) l.length c)) ?_
                        simp only [Act.put, List.setIfInBounds_toArray, List.set_cons_zero, List.set_cons_succ]
                        refine takeQ 5 36 ((.int .i64 (k : Nat))) ?_
                        simp only [Act.put, List.setIfInBounds_toArray, List.set_cons_zero, List.set_cons_succ]
                        refine takeQ 6 37 ((.pointer (some ⟨ob, oo + k * 9, none⟩))) ?_
                        simp only [Act.put, List.setIfInBounds_toArray, List.set_cons_zero, List.set_cons_succ]
                        refine takeQ 7 38 ((.agg #[.int .i64 y.e, .int .i64 y.a, .int .i64 y.k, .int .i64 y.m, .string y.s, .int .i64 y.t, .bool y.add, .int .i64 y.fr, .int .i64 y.til])) ?_ (hy := by (intro _w hSw; have hq := HY.out _ hSw; have q0 := hq.c0; have q1 := hq.c1; have q2 := hq.c2; have q3 := hq.c3; have q4 := hq.c4; have q5 := hq.c5; have q6 := hq.c6; have q7 := hq.c7; have q8 := hq.c8; clear hSw; go_simp))
                        simp only [Act.put, List.setIfInBounds_toArray, List.set_cons_zero, List.set_cons_succ]
                        refine callV 8 rfl (by kernel_rfl) (by rfl) (fun K hK => ?_)
                        go_simp
                        refine (alike_any x y _).mono ?_
                        rintro e wf ⟨rfl, hbf⟩
                        rw [HAL.out]
                        refine hK.out _ _ (hHeld.trans (hbf.mono hHeld.size)) (fun hHeld2 => ?_)
                        clear hbf
                        clear hK K hHeld
                        have hHeld := hHeld2
                        clear hHeld2
                        try simp only [Act.put, List.setIfInBounds_toArray, List.set_cons_zero, List.set_cons_succ]
                        refine takeQ 9 40 ((.bool true)) ?_
                        simp only [Act.put, List.setIfInBounds_toArray, List.set_cons_zero, List.set_cons_succ]
                        refine takeQ 10 41 ((.slice (some ⟨ob, oo, none⟩) l.length c)) ?_
                        simp only [Act.put, List.setIfInBounds_toArray, List.set_cons_zero, List.set_cons_succ]
                        refine takeQ 11 42 ((.int .i64 (i : Nat))) ?_
                        simp only [Act.put, List.setIfInBounds_toArray, List.set_cons_zero, List.set_cons_succ]
                        refine takeQ 12 43 ((.pointer (some ⟨ob, oo + i * 9, none⟩))) ?_
                        simp only [Act.put, List.setIfInBounds_toArray, List.set_cons_zero, List.set_cons_succ]
                        refine takeQ 13 44 ((.pointer (some ⟨ob, oo + i * 9 + 5, none⟩))) ?_
                        simp only [Act.put, List.setIfInBounds_toArray, List.set_cons_zero, List.set_cons_succ]
                        refine takeQ 14 45 ((.int .i64 x.t)) ?_ (hy := by (intro _w hSw; have q0 := (HX.out _ hSw).c5; clear hSw; go_simp))
                        simp only [Act.put, List.setIfInBounds_toArray, List.set_cons_zero, List.set_cons_succ]
                        refine takeQ 15 46 ((.slice (some ⟨ob, oo, none⟩) l.length c)) ?_
                        simp only [Act.put, List.setIfInBounds_toArray, List.set_cons_zero, List.set_cons_succ]
                        refine takeQ 16 47 ((.int .i64 (k : Nat))) ?_
                        simp only [Act.put, List.setIfInBounds_toArray, List.set_cons_zero, List.set_cons_succ]
                        refine takeQ 17 48 ((.pointer (some ⟨ob, oo + k * 9, none⟩))) ?_
                        simp only [Act.put, List.setIfInBounds_toArray, List.set_cons_zero, List.set_cons_succ]
                        refine takeQ 18 49 ((.pointer (some ⟨ob, oo + k * 9 + 5, none⟩))) ?_
                        simp only [Act.put, List.setIfInBounds_toArray, List.set_cons_zero, List.set_cons_succ]
                        refine takeQ 19 50 ((.int .i64 y.t)) ?_ (hy := by (intro _w hSw; have q0 := (HY.out _ hSw).c5; clear hSw; go_simp))
                        simp only [Act.put, List.setIfInBounds_toArray, List.set_cons_zero, List.set_cons_succ]
                        refine takeQ 20 51 ((.bool true)) ?_
                        simp only [Act.put, List.setIfInBounds_toArray, List.set_cons_zero, List.set_cons_succ]
                        refine takeQ 21 52 ((.bool true)) ?_
                        simp only [Act.put, List.setIfInBounds_toArray, List.set_cons_zero, List.set_cons_succ]
                        refine takeQ 22 53 ((.bool true)) ?_
                        simp only [Act.put, List.setIfInBounds_toArray, List.set_cons_zero, List.set_cons_succ]
                        refine takeQ 23 54 ((.slice (some ⟨ob, oo, none⟩) l.length c)) ?_
                        simp only [Act.put, List.setIfInBounds_toArray, List.set_cons_zero, List.set_cons_succ]
                        refine takeQ 24 55 ((.int .i64 (i : Nat))) ?_
                        simp only [Act.put, List.setIfInBounds_toArray, List.set_cons_zero, List.set_cons_succ]
                        refine takeQ 25 56 ((.pointer (some ⟨ob, oo + i * 9, none⟩))) ?_
                        simp only [Act.put, List.setIfInBounds_toArray, List.set_cons_zero, List.set_cons_succ]
                        refine takeQ 26 57 ((.pointer (some ⟨ob, oo + i * 9 + 6, none⟩))) ?_
                        simp only [Act.put, List.setIfInBounds_toArray, List.set_cons_zero, List.set_cons_succ]
                        refine takeQ 27 58 ((.bool x.add)) ?_ (hy := by (intro _w hSw; have q0 := (HX.out _ hSw).c6; clear hSw; go_simp))
                        simp only [Act.put, List.setIfInBounds_toArray, List.set_cons_zero, List.set_cons_succ]
                        refine takeQ 28 59 ((.slice (some ⟨ob, oo, none⟩) l.length c)) ?_
                        simp only [Act.put, List.setIfInBounds_toArray, List.set_cons_zero, List.set_cons_succ]
                        refine takeQ 29 60 ((.int .i64 (k : Nat))) ?_
                        simp only [Act.put, List.setIfInBounds_toArray, List.set_cons_zero, List.set_cons_succ]
                        refine takeQ 30 61 ((.pointer (some ⟨ob, oo + k * 9, none⟩))) ?_
                        simp only [Act.put, List.setIfInBounds_toArray, List.set_cons_zero, List.set_cons_succ]
                        refine takeQ 31 62 ((.pointer (some ⟨ob, oo + k * 9 + 6, none⟩))) ?_
                        simp only [Act.put, List.setIfInBounds_toArray, List.set_cons_zero, List.set_cons_succ]
                        refine takeQ 32 63 ((.bool y.add)) ?_ (hy := by (intro _w hSw; have q0 := (HY.out _ hSw).c6; clear hSw; go_simp))
                        simp only [Act.put, List.setIfInBounds_toArray, List.set_cons_zero, List.set_cons_succ]
                        refine takeQ 33 64 ((.bool true)) ?_
                        simp only [Act.put, List.setIfInBounds_toArray, List.set_cons_zero, List.set_cons_succ]
                        refine takeQ 34 65 ((.bool true)) ?_
                        simp only [Act.put, List.setIfInBounds_toArray, List.set_cons_zero, List.set_cons_succ]
                        refine takeQ 35 66 ((.bool true)) ?_
                        simp only [Act.put, List.setIfInBounds_toArray, List.set_cons_zero, List.set_cons_succ]
                        refine takeQ 36 67 ((.slice (some ⟨ob, oo, none⟩) l.length c)) ?_
                        simp only [Act.put, List.setIfInBounds_toArray, List.set_cons_zero, List.set_cons_succ]
                        refine takeQ 37 68 ((.int .i64 (i : Nat))) ?_
                        simp only [Act.put, List.setIfInBounds_toArray, List.set_cons_zero, List.set_cons_succ]
                        refine takeQ 38 69 ((.pointer (some ⟨ob, oo + i * 9, none⟩))) ?_
                        simp only [Act.put, List.setIfInBounds_toArray, List.set_cons_zero, List.set_cons_succ]
                        refine takeQ 39 70 ((.pointer (some ⟨ob, oo + i * 9 + 7, none⟩))) ?_
                        simp only [Act.put, List.setIfInBounds_toArray, List.set_cons_zero, List.set_cons_succ]
                        refine takeQ 40 71 ((.int .i64 x.fr)) ?_ (hy := by (intro _w hSw; have q0 := (HX.out _ hSw).c7; clear hSw; go_simp))
                        simp only [Act.put, List.setIfInBounds_toArray, List.set_cons_zero, List.set_cons_succ]
                        refine takeQ 41 72 ((.slice (some ⟨ob, oo, none⟩) l.length c)) ?_
                        simp only [Act.put, List.setIfInBounds_toArray, List.set_cons_zero, List.set_cons_succ]
                        refine takeQ 42 73 ((.int .i64 (k : Nat))) ?_
                        simp only [Act.put, List.setIfInBounds_toArray, List.set_cons_zero, List.set_cons_succ]
                        refine takeQ 43 74 ((.pointer (some ⟨ob, oo + k * 9, none⟩))) ?_
                        simp only [Act.put, List.setIfInBounds_toArray, List.set_cons_zero, List.set_cons_succ]
                        refine takeQ 44 75 ((.pointer (some ⟨ob, oo + k * 9 + 8, none⟩))) ?_
                        simp only [Act.put, List.setIfInBounds_toArray, List.set_cons_zero, List.set_cons_succ]
                        refine takeQ 45 76 ((.int .i64 y.til)) ?_ (hy := by (intro _w hSw; have q0 := (HY.out _ hSw).c8; clear hSw; go_simp))
                        simp only [Act.put, List.setIfInBounds_toArray, List.set_cons_zero, List.set_cons_succ]
                        refine takeQ 46 77 ((.bool true)) ?_
                        simp only [Act.put, List.setIfInBounds_toArray, List.set_cons_zero, List.set_cons_succ]
                        refine takeQ 47 78 ((.bool true)) ?_
                        simp only [Act.put, List.setIfInBounds_toArray, List.set_cons_zero, List.set_cons_succ]
                        refine takeQ 48 79 ((.bool true)) ?_
                        simp only [Act.put, List.setIfInBounds_toArray, List.set_cons_zero, List.set_cons_succ]
                        refine takeQ 49 80 ((.slice (some ⟨ob, oo, none⟩) l.length c)) ?_
                        simp only [Act.put, List.setIfInBounds_toArray, List.set_cons_zero, List.set_cons_succ]
                        refine takeQ 50 81 ((.int .i64 (k : Nat))) ?_
                        simp only [Act.put, List.setIfInBounds_toArray, List.set_cons_zero, List.set_cons_succ]
                        refine takeQ 51 82 ((.pointer (some ⟨ob, oo + k * 9, none⟩))) ?_
                        simp only [Act.put, List.setIfInBounds_toArray, List.set_cons_zero, List.set_cons_succ]
                        refine takeQ 52 83 ((.pointer (some ⟨ob, oo + k * 9 + 7, none⟩))) ?_
                        simp only [Act.put, List.setIfInBounds_toArray, List.set_cons_zero, List.set_cons_succ]
                        refine takeQ 53 84 ((.int .i64 y.fr)) ?_ (hy := by (intro _w hSw; have q0 := (HY.out _ hSw).c7; clear hSw; go_simp))
                        simp only [Act.put, List.setIfInBounds_toArray, List.set_cons_zero, List.set_cons_succ]
                        refine takeQ 54 85 ((.slice (some ⟨ob, oo, none⟩) l.length c)) ?_
                        simp only [Act.put, List.setIfInBounds_toArray, List.set_cons_zero, List.set_cons_succ]
                        refine takeQ 55 86 ((.int .i64 (i : Nat))) ?_
                        simp only [Act.put, List.setIfInBounds_toArray, List.set_cons_zero, List.set_cons_succ]
                        refine takeQ 56 87 ((.pointer (some ⟨ob, oo + i * 9, none⟩))) ?_
                        simp only [Act.put, List.setIfInBounds_toArray, List.set_cons_zero, List.set_cons_succ]
                        refine takeQ 57 88 ((.pointer (some ⟨ob, oo + i * 9 + 8, none⟩))) ?_
                        simp only [Act.put, List.setIfInBounds_toArray, List.set_cons_zero, List.set_cons_succ]
                        refine takeQ 58 89 ((.int .i64 x.til)) ?_ (hy := by (intro _w hSw; have q0 := (HX.out _ hSw).c8; clear hSw; go_simp))
                        simp only [Act.put, List.setIfInBounds_toArray, List.set_cons_zero, List.set_cons_succ]
                        refine takeQ 59 90 ((.bool false)) ?_
                        simp only [Act.put, List.setIfInBounds_toArray, List.set_cons_zero, List.set_cons_succ]
                        refine takeQ 60 91 ((.bool false)) ?_
                        simp only [Act.put, List.setIfInBounds_toArray, List.set_cons_zero, List.set_cons_succ]
                        refine wpAnyH_done (by kernel_rfl) ?_ _
                        have HBR := Lib.hid hHeld
                        clear hHeld
                        have HQ2 : Hid (∀ (q : Nat) (b : Dat), q < k + 1 → l[q]? = some b → clashB x b = false) := fun q b hq hb => by
                          by_cases e : q = k
                          · subst e
                            rw [HPK.out] at hb
                            cases hb
                            exact HE.out
                          · exact HQ.out q b (by omega) hb
                        go_wp2
                        go_roundg gk
                        case measure => omega
                        case rel => exact ⟨k + 1, by go_num, by omega, HQ2.out, HBR.out⟩
                    · have g3' : decide (x.fr < y.til) = false := decide_eq_false g3
                      have HE : Hid (clashB x y = false) := by show _ = _; unfold clashB bne; rw [HAL.out, g1', g2', g3']; rfl
                      clear g1 g2 g3
                      go_wp2_with fail
                      have HS0 := Lib.hid (HB.out.trans ((qd_dn (Below.refl wr.heap.size wr) 1).mono HB.out.size))
                      obtain ⟨wz, hwz⟩ : ∃ X, wr.drew = X := ⟨_, rfl⟩
                      refine wp_region_held_drew (S := fun X => Below w.heap.size w X) (by kernel_rfl) HS0.out (fun hHeld => ?_)
                      rw [hwz] at hHeld ⊢
                      clear hwz HS0
                      refine takeQ 0 31 ((.slice (some ⟨ob, oo, none⟩) l.length c)) ?_
                      simp only [Act.put, List.setIfInBounds_toArray, List.set_cons_zero, List.set_cons_succ]
                      refine takeQ 1 32 ((.int .i64 (i : Nat))) ?_
                      simp only [Act.put, List.setIfInBounds_toArray, List.set_cons_zero, List.set_cons_succ]
                      refine takeQ 2 33 ((.pointer (some ⟨ob, oo + i * 9, none⟩))) ?_
                      simp only [Act.put, List.setIfInBounds_toArray, List.set_cons_zero, List.set_cons_succ]
                      refine takeQ 3 34 ((.agg #[.int .i64 x.e, .int .i64 x.a, .int .i64 x.k, .int .i64 x.m, .string x.s, .int .i64 x.t, .bool x.add, .int .i64 x.fr, .int .i64 x.til])) ?_ (hy := by (intro _w hSw; have hq := HX.out _ hSw; have q0 := hq.c0; have q1 := hq.c1; have q2 := hq.c2; have q3 := hq.c3; have q4 := hq.c4; have q5 := hq.c5; have q6 := hq.c6; have q7 := hq.c7; have q8 := hq.c8; clear hSw; go_simp))
                      simp only [Act.put, List.setIfInBounds_toArray, List.set_cons_zero, List.set_cons_succ]
                      refine takeQ 4 35 ((.slice (some ⟨ob, oo, none⟩) l.length c)) ?_
                      simp only [Act.put, List.setIfInBounds_toArray, List.set_cons_zero, List.set_cons_succ]
                      refine takeQ 5 36 ((.int .i64 (k : Nat))) ?_
                      simp only [Act.put, List.setIfInBounds_toArray, List.set_cons_zero, List.set_cons_succ]
                      refine takeQ 6 37 ((.pointer (some ⟨ob, oo + k * 9, none⟩))) ?_
                      simp only [Act.put, List.setIfInBounds_toArray, List.set_cons_zero, List.set_cons_succ]
                      refine takeQ 7 38 ((.agg #[.int .i64 y.e, .int .i64 y.a, .int .i64 y.k, .int .i64 y.m, .string y.s, .int .i64 y.t, .bool y.add, .int .i64 y.fr, .int .i64 y.til])) ?_ (hy := by (intro _w hSw; have hq := HY.out _ hSw; have q0 := hq.c0; have q1 := hq.c1; have q2 := hq.c2; have q3 := hq.c3; have q4 := hq.c4; have q5 := hq.c5; have q6 := hq.c6; have q7 := hq.c7; have q8 := hq.c8; clear hSw; go_simp))
                      simp only [Act.put, List.setIfInBounds_toArray, List.set_cons_zero, List.set_cons_succ]
                      refine callV 8 rfl (by kernel_rfl) (by rfl) (fun K hK => ?_)
                      go_simp
                      refine (alike_any x y _).mono ?_
                      rintro e wf ⟨rfl, hbf⟩
                      rw [HAL.out]
                      refine hK.out _ _ (hHeld.trans (hbf.mono hHeld.size)) (fun hHeld2 => ?_)
                      clear hbf
                      clear hK K hHeld
                      have hHeld := hHeld2
                      clear hHeld2
                      try simp only [Act.put, List.setIfInBounds_toArray, List.set_cons_zero, List.set_cons_succ]
                      refine takeQ 9 40 ((.bool true)) ?_
                      simp only [Act.put, List.setIfInBounds_toArray, List.set_cons_zero, List.set_cons_succ]
                      refine takeQ 10 41 ((.slice (some ⟨ob, oo, none⟩) l.length c)) ?_
                      simp only [Act.put, List.setIfInBounds_toArray, List.set_cons_zero, List.set_cons_succ]
                      refine takeQ 11 42 ((.int .i64 (i : Nat))) ?_
                      simp only [Act.put, List.setIfInBounds_toArray, List.set_cons_zero, List.set_cons_succ]
                      refine takeQ 12 43 ((.pointer (some ⟨ob, oo + i * 9, none⟩))) ?_
                      simp only [Act.put, List.setIfInBounds_toArray, List.set_cons_zero, List.set_cons_succ]
                      refine takeQ 13 44 ((.pointer (some ⟨ob, oo + i * 9 + 5, none⟩))) ?_
                      simp only [Act.put, List.setIfInBounds_toArray, List.set_cons_zero, List.set_cons_succ]
                      refine takeQ 14 45 ((.int .i64 x.t)) ?_ (hy := by (intro _w hSw; have q0 := (HX.out _ hSw).c5; clear hSw; go_simp))
                      simp only [Act.put, List.setIfInBounds_toArray, List.set_cons_zero, List.set_cons_succ]
                      refine takeQ 15 46 ((.slice (some ⟨ob, oo, none⟩) l.length c)) ?_
                      simp only [Act.put, List.setIfInBounds_toArray, List.set_cons_zero, List.set_cons_succ]
                      refine takeQ 16 47 ((.int .i64 (k : Nat))) ?_
                      simp only [Act.put, List.setIfInBounds_toArray, List.set_cons_zero, List.set_cons_succ]
                      refine takeQ 17 48 ((.pointer (some ⟨ob, oo + k * 9, none⟩))) ?_
                      simp only [Act.put, List.setIfInBounds_toArray, List.set_cons_zero, List.set_cons_succ]
                      refine takeQ 18 49 ((.pointer (some ⟨ob, oo + k * 9 + 5, none⟩))) ?_
                      simp only [Act.put, List.setIfInBounds_toArray, List.set_cons_zero, List.set_cons_succ]
                      refine takeQ 19 50 ((.int .i64 y.t)) ?_ (hy := by (intro _w hSw; have q0 := (HY.out _ hSw).c5; clear hSw; go_simp))
                      simp only [Act.put, List.setIfInBounds_toArray, List.set_cons_zero, List.set_cons_succ]
                      refine takeQ 20 51 ((.bool true)) ?_
                      simp only [Act.put, List.setIfInBounds_toArray, List.set_cons_zero, List.set_cons_succ]
                      refine takeQ 21 52 ((.bool true)) ?_
                      simp only [Act.put, List.setIfInBounds_toArray, List.set_cons_zero, List.set_cons_succ]
                      refine takeQ 22 53 ((.bool true)) ?_
                      simp only [Act.put, List.setIfInBounds_toArray, List.set_cons_zero, List.set_cons_succ]
                      refine takeQ 23 54 ((.slice (some ⟨ob, oo, none⟩) l.length c)) ?_
                      simp only [Act.put, List.setIfInBounds_toArray, List.set_cons_zero, List.set_cons_succ]
                      refine takeQ 24 55 ((.int .i64 (i : Nat))) ?_
                      simp only [Act.put, List.setIfInBounds_toArray, List.set_cons_zero, List.set_cons_succ]
                      refine takeQ 25 56 ((.pointer (some ⟨ob, oo + i * 9, none⟩))) ?_
                      simp only [Act.put, List.setIfInBounds_toArray, List.set_cons_zero, List.set_cons_succ]
                      refine takeQ 26 57 ((.pointer (some ⟨ob, oo + i * 9 + 6, none⟩))) ?_
                      simp only [Act.put, List.setIfInBounds_toArray, List.set_cons_zero, List.set_cons_succ]
                      refine takeQ 27 58 ((.bool x.add)) ?_ (hy := by (intro _w hSw; have q0 := (HX.out _ hSw).c6; clear hSw; go_simp))
                      simp only [Act.put, List.setIfInBounds_toArray, List.set_cons_zero, List.set_cons_succ]
                      refine takeQ 28 59 ((.slice (some ⟨ob, oo, none⟩) l.length c)) ?_
                      simp only [Act.put, List.setIfInBounds_toArray, List.set_cons_zero, List.set_cons_succ]
                      refine takeQ 29 60 ((.int .i64 (k : Nat))) ?_
                      simp only [Act.put, List.setIfInBounds_toArray, List.set_cons_zero, List.set_cons_succ]
                      refine takeQ 30 61 ((.pointer (some ⟨ob, oo + k * 9, none⟩))) ?_
                      simp only [Act.put, List.setIfInBounds_toArray, List.set_cons_zero, List.set_cons_succ]
                      refine takeQ 31 62 ((.pointer (some ⟨ob, oo + k * 9 + 6, none⟩))) ?_
                      simp only [Act.put, List.setIfInBounds_toArray, List.set_cons_zero, List.set_cons_succ]
                      refine takeQ 32 63 ((.bool y.add)) ?_ (hy := by (intro _w hSw; have q0 := (HY.out _ hSw).c6; clear hSw; go_simp))
                      simp only [Act.put, List.setIfInBounds_toArray, List.set_cons_zero, List.set_cons_succ]
                      refine takeQ 33 64 ((.bool true)) ?_
                      simp only [Act.put, List.setIfInBounds_toArray, List.set_cons_zero, List.set_cons_succ]
                      refine takeQ 34 65 ((.bool true)) ?_
                      simp only [Act.put, List.setIfInBounds_toArray, List.set_cons_zero, List.set_cons_succ]
                      refine takeQ 35 66 ((.bool true)) ?_
                      simp only [Act.put, List.setIfInBounds_toArray, List.set_cons_zero, List.set_cons_succ]
                      refine takeQ 36 67 ((.slice (some ⟨ob, oo, none⟩) l.length c)) ?_
                      simp only [Act.put, List.setIfInBounds_toArray, List.set_cons_zero, List.set_cons_succ]
                      refine takeQ 37 68 ((.int .i64 (i : Nat))) ?_
                      simp only [Act.put, List.setIfInBounds_toArray, List.set_cons_zero, List.set_cons_succ]
                      refine takeQ 38 69 ((.pointer (some ⟨ob, oo + i * 9, none⟩))) ?_
                      simp only [Act.put, List.setIfInBounds_toArray, List.set_cons_zero, List.set_cons_succ]
                      refine takeQ 39 70 ((.pointer (some ⟨ob, oo + i * 9 + 7, none⟩))) ?_
                      simp only [Act.put, List.setIfInBounds_toArray, List.set_cons_zero, List.set_cons_succ]
                      refine takeQ 40 71 ((.int .i64 x.fr)) ?_ (hy := by (intro _w hSw; have q0 := (HX.out _ hSw).c7; clear hSw; go_simp))
                      simp only [Act.put, List.setIfInBounds_toArray, List.set_cons_zero, List.set_cons_succ]
                      refine takeQ 41 72 ((.slice (some ⟨ob, oo, none⟩) l.length c)) ?_
                      simp only [Act.put, List.setIfInBounds_toArray, List.set_cons_zero, List.set_cons_succ]
                      refine takeQ 42 73 ((.int .i64 (k : Nat))) ?_
                      simp only [Act.put, List.setIfInBounds_toArray, List.set_cons_zero, List.set_cons_succ]
                      refine takeQ 43 74 ((.pointer (some ⟨ob, oo + k * 9, none⟩))) ?_
                      simp only [Act.put, List.setIfInBounds_toArray, List.set_cons_zero, List.set_cons_succ]
                      refine takeQ 44 75 ((.pointer (some ⟨ob, oo + k * 9 + 8, none⟩))) ?_
                      simp only [Act.put, List.setIfInBounds_toArray, List.set_cons_zero, List.set_cons_succ]
                      refine takeQ 45 76 ((.int .i64 y.til)) ?_ (hy := by (intro _w hSw; have q0 := (HY.out _ hSw).c8; clear hSw; go_simp))
                      simp only [Act.put, List.setIfInBounds_toArray, List.set_cons_zero, List.set_cons_succ]
                      refine takeQ 46 77 ((.bool false)) ?_
                      simp only [Act.put, List.setIfInBounds_toArray, List.set_cons_zero, List.set_cons_succ]
                      refine takeQ 47 78 ((.bool false)) ?_
                      simp only [Act.put, List.setIfInBounds_toArray, List.set_cons_zero, List.set_cons_succ]
                      refine takeQ 48 79 ((.bool false)) ?_
                      simp only [Act.put, List.setIfInBounds_toArray, List.set_cons_zero, List.set_cons_succ]
                      refine skipQ 49 80 ?_
                      simp only [Act.put, List.setIfInBounds_toArray, List.set_cons_zero, List.set_cons_succ]
                      refine skipQ 50 81 ?_
                      simp only [Act.put, List.setIfInBounds_toArray, List.set_cons_zero, List.set_cons_succ]
                      refine skipQ 51 82 ?_
                      simp only [Act.put, List.setIfInBounds_toArray, List.set_cons_zero, List.set_cons_succ]
                      refine skipQ 52 83 ?_
                      simp only [Act.put, List.setIfInBounds_toArray, List.set_cons_zero, List.set_cons_succ]
                      refine skipQ 53 84 ?_
                      simp only [Act.put, List.setIfInBounds_toArray, List.set_cons_zero, List.set_cons_succ]
                      refine skipQ 54 85 ?_
                      simp only [Act.put, List.setIfInBounds_toArray, List.set_cons_zero, List.set_cons_succ]
                      refine skipQ 55 86 ?_
                      simp only [Act.put, List.setIfInBounds_toArray, List.set_cons_zero, List.set_cons_succ]
                      refine skipQ 56 87 ?_
                      simp only [Act.put, List.setIfInBounds_toArray, List.set_cons_zero, List.set_cons_succ]
                      refine skipQ 57 88 ?_
                      simp only [Act.put, List.setIfInBounds_toArray, List.set_cons_zero, List.set_cons_succ]
                      refine skipQ 58 89 ?_
                      simp only [Act.put, List.setIfInBounds_toArray, List.set_cons_zero, List.set_cons_succ]
                      refine skipQ 59 90 ?_
                      simp only [Act.put, List.setIfInBounds_toArray, List.set_cons_zero, List.set_cons_succ]
                      refine takeQ 60 91 ((.bool false)) ?_
                      simp only [Act.put, List.setIfInBounds_toArray, List.set_cons_zero, List.set_cons_succ]
                      refine wpAnyH_done (by kernel_rfl) ?_ _
                      have HBR := Lib.hid hHeld
                      clear hHeld
                      have HQ2 : Hid (∀ (q : Nat) (b : Dat), q < k + 1 → l[q]? = some b → clashB x b = false) := fun q b hq hb => by
                        by_cases e : q = k
                        · subst e
                          rw [HPK.out] at hb
                          cases hb
                          exact HE.out
                        · exact HQ.out q b (by omega) hb
                      go_wp2
                      go_roundg gk
                      case measure => omega
                      case rel => exact ⟨k + 1, by go_num, by omega, HQ2.out, HBR.out⟩
                  · have g2' : (x.add == y.add) = true := beq_iff_eq.2 (Classical.not_not.1 g2)
                    have HE : Hid (clashB x y = false) := by show _ = _; unfold clashB bne; rw [HAL.out, g1', g2']; rfl
                    clear g1 g2
                    go_wp2_with fail
                    have HS0 := Lib.hid (HB.out.trans ((qd_dn (Below.refl wr.heap.size wr) 1).mono HB.out.size))
                    obtain ⟨wz, hwz⟩ : ∃ X, wr.drew = X := ⟨_, rfl⟩
                    refine wp_region_held_drew (S := fun X => Below w.heap.size w X) (by kernel_rfl) HS0.out (fun hHeld => ?_)
                    rw [hwz] at hHeld ⊢
                    clear hwz HS0
                    refine takeQ 0 31 ((.slice (some ⟨ob, oo, none⟩) l.length c)) ?_
                    simp only [Act.put, List.setIfInBounds_toArray, List.set_cons_zero, List.set_cons_succ]
                    refine takeQ 1 32 ((.int .i64 (i : Nat))) ?_
                    simp only [Act.put, List.setIfInBounds_toArray, List.set_cons_zero, List.set_cons_succ]
                    refine takeQ 2 33 ((.pointer (some ⟨ob, oo + i * 9, none⟩))) ?_
                    simp only [Act.put, List.setIfInBounds_toArray, List.set_cons_zero, List.set_cons_succ]
                    refine takeQ 3 34 ((.agg #[.int .i64 x.e, .int .i64 x.a, .int .i64 x.k, .int .i64 x.m, .string x.s, .int .i64 x.t, .bool x.add, .int .i64 x.fr, .int .i64 x.til])) ?_ (hy := by (intro _w hSw; have hq := HX.out _ hSw; have q0 := hq.c0; have q1 := hq.c1; have q2 := hq.c2; have q3 := hq.c3; have q4 := hq.c4; have q5 := hq.c5; have q6 := hq.c6; have q7 := hq.c7; have q8 := hq.c8; clear hSw; go_simp))
                    simp only [Act.put, List.setIfInBounds_toArray, List.set_cons_zero, List.set_cons_succ]
                    refine takeQ 4 35 ((.slice (some ⟨ob, oo, none⟩) l.length c)) ?_
                    simp only [Act.put, List.setIfInBounds_toArray, List.set_cons_zero, List.set_cons_succ]
                    refine takeQ 5 36 ((.int .i64 (k : Nat))) ?_
                    simp only [Act.put, List.setIfInBounds_toArray, List.set_cons_zero, List.set_cons_succ]
                    refine takeQ 6 37 ((.pointer (some ⟨ob, oo + k * 9, none⟩))) ?_
                    simp only [Act.put, List.setIfInBounds_toArray, List.set_cons_zero, List.set_cons_succ]
                    refine takeQ 7 38 ((.agg #[.int .i64 y.e, .int .i64 y.a, .int .i64 y.k, .int .i64 y.m, .string y.s, .int .i64 y.t, .bool y.add, .int .i64 y.fr, .int .i64 y.til])) ?_ (hy := by (intro _w hSw; have hq := HY.out _ hSw; have q0 := hq.c0; have q1 := hq.c1; have q2 := hq.c2; have q3 := hq.c3; have q4 := hq.c4; have q5 := hq.c5; have q6 := hq.c6; have q7 := hq.c7; have q8 := hq.c8; clear hSw; go_simp))
                    simp only [Act.put, List.setIfInBounds_toArray, List.set_cons_zero, List.set_cons_succ]
                    refine callV 8 rfl (by kernel_rfl) (by rfl) (fun K hK => ?_)
                    go_simp
                    refine (alike_any x y _).mono ?_
                    rintro e wf ⟨rfl, hbf⟩
                    rw [HAL.out]
                    refine hK.out _ _ (hHeld.trans (hbf.mono hHeld.size)) (fun hHeld2 => ?_)
                    clear hbf
                    clear hK K hHeld
                    have hHeld := hHeld2
                    clear hHeld2
                    try simp only [Act.put, List.setIfInBounds_toArray, List.set_cons_zero, List.set_cons_succ]
                    refine takeQ 9 40 ((.bool true)) ?_
                    simp only [Act.put, List.setIfInBounds_toArray, List.set_cons_zero, List.set_cons_succ]
                    refine takeQ 10 41 ((.slice (some ⟨ob, oo, none⟩) l.length c)) ?_
                    simp only [Act.put, List.setIfInBounds_toArray, List.set_cons_zero, List.set_cons_succ]
                    refine takeQ 11 42 ((.int .i64 (i : Nat))) ?_
                    simp only [Act.put, List.setIfInBounds_toArray, List.set_cons_zero, List.set_cons_succ]
                    refine takeQ 12 43 ((.pointer (some ⟨ob, oo + i * 9, none⟩))) ?_
                    simp only [Act.put, List.setIfInBounds_toArray, List.set_cons_zero, List.set_cons_succ]
                    refine takeQ 13 44 ((.pointer (some ⟨ob, oo + i * 9 + 5, none⟩))) ?_
                    simp only [Act.put, List.setIfInBounds_toArray, List.set_cons_zero, List.set_cons_succ]
                    refine takeQ 14 45 ((.int .i64 x.t)) ?_ (hy := by (intro _w hSw; have q0 := (HX.out _ hSw).c5; clear hSw; go_simp))
                    simp only [Act.put, List.setIfInBounds_toArray, List.set_cons_zero, List.set_cons_succ]
                    refine takeQ 15 46 ((.slice (some ⟨ob, oo, none⟩) l.length c)) ?_
                    simp only [Act.put, List.setIfInBounds_toArray, List.set_cons_zero, List.set_cons_succ]
                    refine takeQ 16 47 ((.int .i64 (k : Nat))) ?_
                    simp only [Act.put, List.setIfInBounds_toArray, List.set_cons_zero, List.set_cons_succ]
                    refine takeQ 17 48 ((.pointer (some ⟨ob, oo + k * 9, none⟩))) ?_
                    simp only [Act.put, List.setIfInBounds_toArray, List.set_cons_zero, List.set_cons_succ]
                    refine takeQ 18 49 ((.pointer (some ⟨ob, oo + k * 9 + 5, none⟩))) ?_
                    simp only [Act.put, List.setIfInBounds_toArray, List.set_cons_zero, List.set_cons_succ]
                    refine takeQ 19 50 ((.int .i64 y.t)) ?_ (hy := by (intro _w hSw; have q0 := (HY.out _ hSw).c5; clear hSw; go_simp))
                    simp only [Act.put, List.setIfInBounds_toArray, List.set_cons_zero, List.set_cons_succ]
                    refine takeQ 20 51 ((.bool true)) ?_
                    simp only [Act.put, List.setIfInBounds_toArray, List.set_cons_zero, List.set_cons_succ]
                    refine takeQ 21 52 ((.bool true)) ?_
                    simp only [Act.put, List.setIfInBounds_toArray, List.set_cons_zero, List.set_cons_succ]
                    refine takeQ 22 53 ((.bool true)) ?_
                    simp only [Act.put, List.setIfInBounds_toArray, List.set_cons_zero, List.set_cons_succ]
                    refine takeQ 23 54 ((.slice (some ⟨ob, oo, none⟩) l.length c)) ?_
                    simp only [Act.put, List.setIfInBounds_toArray, List.set_cons_zero, List.set_cons_succ]
                    refine takeQ 24 55 ((.int .i64 (i : Nat))) ?_
                    simp only [Act.put, List.setIfInBounds_toArray, List.set_cons_zero, List.set_cons_succ]
                    refine takeQ 25 56 ((.pointer (some ⟨ob, oo + i * 9, none⟩))) ?_
                    simp only [Act.put, List.setIfInBounds_toArray, List.set_cons_zero, List.set_cons_succ]
                    refine takeQ 26 57 ((.pointer (some ⟨ob, oo + i * 9 + 6, none⟩))) ?_
                    simp only [Act.put, List.setIfInBounds_toArray, List.set_cons_zero, List.set_cons_succ]
                    refine takeQ 27 58 ((.bool x.add)) ?_ (hy := by (intro _w hSw; have q0 := (HX.out _ hSw).c6; clear hSw; go_simp))
                    simp only [Act.put, List.setIfInBounds_toArray, List.set_cons_zero, List.set_cons_succ]
                    refine takeQ 28 59 ((.slice (some ⟨ob, oo, none⟩) l.length c)) ?_
                    simp only [Act.put, List.setIfInBounds_toArray, List.set_cons_zero, List.set_cons_succ]
                    refine takeQ 29 60 ((.int .i64 (k : Nat))) ?_
                    simp only [Act.put, List.setIfInBounds_toArray, List.set_cons_zero, List.set_cons_succ]
                    refine takeQ 30 61 ((.pointer (some ⟨ob, oo + k * 9, none⟩))) ?_
                    simp only [Act.put, List.setIfInBounds_toArray, List.set_cons_zero, List.set_cons_succ]
                    refine takeQ 31 62 ((.pointer (some ⟨ob, oo + k * 9 + 6, none⟩))) ?_
                    simp only [Act.put, List.setIfInBounds_toArray, List.set_cons_zero, List.set_cons_succ]
                    refine takeQ 32 63 ((.bool y.add)) ?_ (hy := by (intro _w hSw; have q0 := (HY.out _ hSw).c6; clear hSw; go_simp))
                    simp only [Act.put, List.setIfInBounds_toArray, List.set_cons_zero, List.set_cons_succ]
                    refine takeQ 33 64 ((.bool false)) ?_
                    simp only [Act.put, List.setIfInBounds_toArray, List.set_cons_zero, List.set_cons_succ]
                    refine takeQ 34 65 ((.bool false)) ?_
                    simp only [Act.put, List.setIfInBounds_toArray, List.set_cons_zero, List.set_cons_succ]
                    refine takeQ 35 66 ((.bool false)) ?_
                    simp only [Act.put, List.setIfInBounds_toArray, List.set_cons_zero, List.set_cons_succ]
                    refine skipQ 36 67 ?_
                    simp only [Act.put, List.setIfInBounds_toArray, List.set_cons_zero, List.set_cons_succ]
                    refine skipQ 37 68 ?_
                    simp only [Act.put, List.setIfInBounds_toArray, List.set_cons_zero, List.set_cons_succ]
                    refine skipQ 38 69 ?_
                    simp only [Act.put, List.setIfInBounds_toArray, List.set_cons_zero, List.set_cons_succ]
                    refine skipQ 39 70 ?_
                    simp only [Act.put, List.setIfInBounds_toArray, List.set_cons_zero, List.set_cons_succ]
                    refine skipQ 40 71 ?_
                    simp only [Act.put, List.setIfInBounds_toArray, List.set_cons_zero, List.set_cons_succ]
                    refine skipQ 41 72 ?_
                    simp only [Act.put, List.setIfInBounds_toArray, List.set_cons_zero, List.set_cons_succ]
                    refine skipQ 42 73 ?_
                    simp only [Act.put, List.setIfInBounds_toArray, List.set_cons_zero, List.set_cons_succ]
                    refine skipQ 43 74 ?_
                    simp only [Act.put, List.setIfInBounds_toArray, List.set_cons_zero, List.set_cons_succ]
                    refine skipQ 44 75 ?_
                    simp only [Act.put, List.setIfInBounds_toArray, List.set_cons_zero, List.set_cons_succ]
                    refine skipQ 45 76 ?_
                    simp only [Act.put, List.setIfInBounds_toArray, List.set_cons_zero, List.set_cons_succ]
                    refine skipQ 46 77 ?_
                    simp only [Act.put, List.setIfInBounds_toArray, List.set_cons_zero, List.set_cons_succ]
                    refine takeQ 47 78 ((.bool false)) ?_
                    simp only [Act.put, List.setIfInBounds_toArray, List.set_cons_zero, List.set_cons_succ]
                    refine takeQ 48 79 ((.bool false)) ?_
                    simp only [Act.put, List.setIfInBounds_toArray, List.set_cons_zero, List.set_cons_succ]
                    refine skipQ 49 80 ?_
                    simp only [Act.put, List.setIfInBounds_toArray, List.set_cons_zero, List.set_cons_succ]
                    refine skipQ 50 81 ?_
                    simp only [Act.put, List.setIfInBounds_toArray, List.set_cons_zero, List.set_cons_succ]
                    refine skipQ 51 82 ?_
                    simp only [Act.put, List.setIfInBounds_toArray, List.set_cons_zero, List.set_cons_succ]
                    refine skipQ 52 83 ?_
                    simp only [Act.put, List.setIfInBounds_toArray, List.set_cons_zero, List.set_cons_succ]
                    refine skipQ 53 84 ?_
                    simp only [Act.put, List.setIfInBounds_toArray, List.set_cons_zero, List.set_cons_succ]
                    refine skipQ 54 85 ?_
                    simp only [Act.put, List.setIfInBounds_toArray, List.set_cons_zero, List.set_cons_succ]
                    refine skipQ 55 86 ?_
                    simp only [Act.put, List.setIfInBounds_toArray, List.set_cons_zero, List.set_cons_succ]
                    refine skipQ 56 87 ?_
                    simp only [Act.put, List.setIfInBounds_toArray, List.set_cons_zero, List.set_cons_succ]
                    refine skipQ 57 88 ?_
                    simp only [Act.put, List.setIfInBounds_toArray, List.set_cons_zero, List.set_cons_succ]
                    refine skipQ 58 89 ?_
                    simp only [Act.put, List.setIfInBounds_toArray, List.set_cons_zero, List.set_cons_succ]
                    refine skipQ 59 90 ?_
                    simp only [Act.put, List.setIfInBounds_toArray, List.set_cons_zero, List.set_cons_succ]
                    refine takeQ 60 91 ((.bool false)) ?_
                    simp only [Act.put, List.setIfInBounds_toArray, List.set_cons_zero, List.set_cons_succ]
                    refine wpAnyH_done (by kernel_rfl) ?_ _
                    have HBR := Lib.hid hHeld
                    clear hHeld
                    have HQ2 : Hid (∀ (q : Nat) (b : Dat), q < k + 1 → l[q]? = some b → clashB x b = false) := fun q b hq hb => by
                      by_cases e : q = k
                      · subst e
                        rw [HPK.out] at hb
                        cases hb
                        exact HE.out
                      · exact HQ.out q b (by omega) hb
                    go_wp2
                    go_roundg gk
                    case measure => omega
                    case rel => exact ⟨k + 1, by go_num, by omega, HQ2.out, HBR.out⟩
                · have g1' : (x.t == y.t) = false := beq_eq_false_iff_ne.2 g1
                  have HE : Hid (clashB x y = false) := by show _ = _; unfold clashB bne; rw [HAL.out, g1']; rfl
                  clear g1
                  go_wp2_with fail
                  have HS0 := Lib.hid (HB.out.trans ((qd_dn (Below.refl wr.heap.size wr) 1).mono HB.out.size))
                  obtain ⟨wz, hwz⟩ : ∃ X, wr.drew = X := ⟨_, rfl⟩
                  refine wp_region_held_drew (S := fun X => Below w.heap.size w X) (by kernel_rfl) HS0.out (fun hHeld => ?_)
                  rw [hwz] at hHeld ⊢
                  clear hwz HS0
                  refine takeQ 0 31 ((.slice (some ⟨ob, oo, none⟩) l.length c)) ?_
                  simp only [Act.put, List.setIfInBounds_toArray, List.set_cons_zero, List.set_cons_succ]
                  refine takeQ 1 32 ((.int .i64 (i : Nat))) ?_
                  simp only [Act.put, List.setIfInBounds_toArray, List.set_cons_zero, List.set_cons_succ]
                  refine takeQ 2 33 ((.pointer (some ⟨ob, oo + i * 9, none⟩))) ?_
                  simp only [Act.put, List.setIfInBounds_toArray, List.set_cons_zero, List.set_cons_succ]
                  refine takeQ 3 34 ((.agg #[.int .i64 x.e, .int .i64 x.a, .int .i64 x.k, .int .i64 x.m, .string x.s, .int .i64 x.t, .bool x.add, .int .i64 x.fr, .int .i64 x.til])) ?_ (hy := by (intro _w hSw; have hq := HX.out _ hSw; have q0 := hq.c0; have q1 := hq.c1; have q2 := hq.c2; have q3 := hq.c3; have q4 := hq.c4; have q5 := hq.c5; have q6 := hq.c6; have q7 := hq.c7; have q8 := hq.c8; clear hSw; go_simp))
                  simp only [Act.put, List.setIfInBounds_toArray, List.set_cons_zero, List.set_cons_succ]
                  refine takeQ 4 35 ((.slice (some ⟨ob, oo, none⟩) l.length c)) ?_
                  simp only [Act.put, List.setIfInBounds_toArray, List.set_cons_zero, List.set_cons_succ]
                  refine takeQ 5 36 ((.int .i64 (k : Nat))) ?_
                  simp only [Act.put, List.setIfInBounds_toArray, List.set_cons_zero, List.set_cons_succ]
                  refine takeQ 6 37 ((.pointer (some ⟨ob, oo + k * 9, none⟩))) ?_
                  simp only [Act.put, List.setIfInBounds_toArray, List.set_cons_zero, List.set_cons_succ]
                  refine takeQ 7 38 ((.agg #[.int .i64 y.e, .int .i64 y.a, .int .i64 y.k, .int .i64 y.m, .string y.s, .int .i64 y.t, .bool y.add, .int .i64 y.fr, .int .i64 y.til])) ?_ (hy := by (intro _w hSw; have hq := HY.out _ hSw; have q0 := hq.c0; have q1 := hq.c1; have q2 := hq.c2; have q3 := hq.c3; have q4 := hq.c4; have q5 := hq.c5; have q6 := hq.c6; have q7 := hq.c7; have q8 := hq.c8; clear hSw; go_simp))
                  simp only [Act.put, List.setIfInBounds_toArray, List.set_cons_zero, List.set_cons_succ]
                  refine callV 8 rfl (by kernel_rfl) (by rfl) (fun K hK => ?_)
                  go_simp
                  refine (alike_any x y _).mono ?_
                  rintro e wf ⟨rfl, hbf⟩
                  rw [HAL.out]
                  refine hK.out _ _ (hHeld.trans (hbf.mono hHeld.size)) (fun hHeld2 => ?_)
                  clear hbf
                  clear hK K hHeld
                  have hHeld := hHeld2
                  clear hHeld2
                  try simp only [Act.put, List.setIfInBounds_toArray, List.set_cons_zero, List.set_cons_succ]
                  refine takeQ 9 40 ((.bool true)) ?_
                  simp only [Act.put, List.setIfInBounds_toArray, List.set_cons_zero, List.set_cons_succ]
                  refine takeQ 10 41 ((.slice (some ⟨ob, oo, none⟩) l.length c)) ?_
                  simp only [Act.put, List.setIfInBounds_toArray, List.set_cons_zero, List.set_cons_succ]
                  refine takeQ 11 42 ((.int .i64 (i : Nat))) ?_
                  simp only [Act.put, List.setIfInBounds_toArray, List.set_cons_zero, List.set_cons_succ]
                  refine takeQ 12 43 ((.pointer (some ⟨ob, oo + i * 9, none⟩))) ?_
                  simp only [Act.put, List.setIfInBounds_toArray, List.set_cons_zero, List.set_cons_succ]
                  refine takeQ 13 44 ((.pointer (some ⟨ob, oo + i * 9 + 5, none⟩))) ?_
                  simp only [Act.put, List.setIfInBounds_toArray, List.set_cons_zero, List.set_cons_succ]
                  refine takeQ 14 45 ((.int .i64 x.t)) ?_ (hy := by (intro _w hSw; have q0 := (HX.out _ hSw).c5; clear hSw; go_simp))
                  simp only [Act.put, List.setIfInBounds_toArray, List.set_cons_zero, List.set_cons_succ]
                  refine takeQ 15 46 ((.slice (some ⟨ob, oo, none⟩) l.length c)) ?_
                  simp only [Act.put, List.setIfInBounds_toArray, List.set_cons_zero, List.set_cons_succ]
                  refine takeQ 16 47 ((.int .i64 (k : Nat))) ?_
                  simp only [Act.put, List.setIfInBounds_toArray, List.set_cons_zero, List.set_cons_succ]
                  refine takeQ 17 48 ((.pointer (some ⟨ob, oo + k * 9, none⟩))) ?_
                  simp only [Act.put, List.setIfInBounds_toArray, List.set_cons_zero, List.set_cons_succ]
                  refine takeQ 18 49 ((.pointer (some ⟨ob, oo + k * 9 + 5, none⟩))) ?_
                  simp only [Act.put, List.setIfInBounds_toArray, List.set_cons_zero, List.set_cons_succ]
                  refine takeQ 19 50 ((.int .i64 y.t)) ?_ (hy := by (intro _w hSw; have q0 := (HY.out _ hSw).c5; clear hSw; go_simp))
                  simp only [Act.put, List.setIfInBounds_toArray, List.set_cons_zero, List.set_cons_succ]
                  refine takeQ 20 51 ((.bool false)) ?_
                  simp only [Act.put, List.setIfInBounds_toArray, List.set_cons_zero, List.set_cons_succ]
                  refine takeQ 21 52 ((.bool false)) ?_
                  simp only [Act.put, List.setIfInBounds_toArray, List.set_cons_zero, List.set_cons_succ]
                  refine takeQ 22 53 ((.bool false)) ?_
                  simp only [Act.put, List.setIfInBounds_toArray, List.set_cons_zero, List.set_cons_succ]
                  refine skipQ 23 54 ?_
                  simp only [Act.put, List.setIfInBounds_toArray, List.set_cons_zero, List.set_cons_succ]
                  refine skipQ 24 55 ?_
                  simp only [Act.put, List.setIfInBounds_toArray, List.set_cons_zero, List.set_cons_succ]
                  refine skipQ 25 56 ?_
                  simp only [Act.put, List.setIfInBounds_toArray, List.set_cons_zero, List.set_cons_succ]
                  refine skipQ 26 57 ?_
                  simp only [Act.put, List.setIfInBounds_toArray, List.set_cons_zero, List.set_cons_succ]
                  refine skipQ 27 58 ?_
                  simp only [Act.put, List.setIfInBounds_toArray, List.set_cons_zero, List.set_cons_succ]
                  refine skipQ 28 59 ?_
                  simp only [Act.put, List.setIfInBounds_toArray, List.set_cons_zero, List.set_cons_succ]
                  refine skipQ 29 60 ?_
                  simp only [Act.put, List.setIfInBounds_toArray, List.set_cons_zero, List.set_cons_succ]
                  refine skipQ 30 61 ?_
                  simp only [Act.put, List.setIfInBounds_toArray, List.set_cons_zero, List.set_cons_succ]
                  refine skipQ 31 62 ?_
                  simp only [Act.put, List.setIfInBounds_toArray, List.set_cons_zero, List.set_cons_succ]
                  refine skipQ 32 63 ?_
                  simp only [Act.put, List.setIfInBounds_toArray, List.set_cons_zero, List.set_cons_succ]
                  refine skipQ 33 64 ?_
                  simp only [Act.put, List.setIfInBounds_toArray, List.set_cons_zero, List.set_cons_succ]
                  refine takeQ 34 65 ((.bool false)) ?_
                  simp only [Act.put, List.setIfInBounds_toArray, List.set_cons_zero, List.set_cons_succ]
                  refine takeQ 35 66 ((.bool false)) ?_
                  simp only [Act.put, List.setIfInBounds_toArray, List.set_cons_zero, List.set_cons_succ]
                  refine skipQ 36 67 ?_
                  simp only [Act.put, List.setIfInBounds_toArray, List.set_cons_zero, List.set_cons_succ]
                  refine skipQ 37 68 ?_
                  simp only [Act.put, List.setIfInBounds_toArray, List.set_cons_zero, List.set_cons_succ]
                  refine skipQ 38 69 ?_
                  simp only [Act.put, List.setIfInBounds_toArray, List.set_cons_zero, List.set_cons_succ]
                  refine skipQ 39 70 ?_
                  simp only [Act.put, List.setIfInBounds_toArray, List.set_cons_zero, List.set_cons_succ]
                  refine skipQ 40 71 ?_
                  simp only [Act.put, List.setIfInBounds_toArray, List.set_cons_zero, List.set_cons_succ]
                  refine skipQ 41 72 ?_
                  simp only [Act.put, List.setIfInBounds_toArray, List.set_cons_zero, List.set_cons_succ]
                  refine skipQ 42 73 ?_
                  simp only [Act.put, List.setIfInBounds_toArray, List.set_cons_zero, List.set_cons_succ]
                  refine skipQ 43 74 ?_
                  simp only [Act.put, List.setIfInBounds_toArray, List.set_cons_zero, List.set_cons_succ]
                  refine skipQ 44 75 ?_
                  simp only [Act.put, List.setIfInBounds_toArray, List.set_cons_zero, List.set_cons_succ]
                  refine skipQ 45 76 ?_
                  simp only [Act.put, List.setIfInBounds_toArray, List.set_cons_zero, List.set_cons_succ]
                  refine skipQ 46 77 ?_
                  simp only [Act.put, List.setIfInBounds_toArray, List.set_cons_zero, List.set_cons_succ]
                  refine takeQ 47 78 ((.bool false)) ?_
                  simp only [Act.put, List.setIfInBounds_toArray, List.set_cons_zero, List.set_cons_succ]
                  refine takeQ 48 79 ((.bool false)) ?_
                  simp only [Act.put, List.setIfInBounds_toArray, List.set_cons_zero, List.set_cons_succ]
                  refine skipQ 49 80 ?_
                  simp only [Act.put, List.setIfInBounds_toArray, List.set_cons_zero, List.set_cons_succ]
                  refine skipQ 50 81 ?_
                  simp only [Act.put, List.setIfInBounds_toArray, List.set_cons_zero, List.set_cons_succ]
                  refine skipQ 51 82 ?_
                  simp only [Act.put, List.setIfInBounds_toArray, List.set_cons_zero, List.set_cons_succ]
                  refine skipQ 52 83 ?_
                  simp only [Act.put, List.setIfInBounds_toArray, List.set_cons_zero, List.set_cons_succ]
                  refine skipQ 53 84 ?_
                  simp only [Act.put, List.setIfInBounds_toArray, List.set_cons_zero, List.set_cons_succ]
                  refine skipQ 54 85 ?_
                  simp only [Act.put, List.setIfInBounds_toArray, List.set_cons_zero, List.set_cons_succ]
                  refine skipQ 55 86 ?_
                  simp only [Act.put, List.setIfInBounds_toArray, List.set_cons_zero, List.set_cons_succ]
                  refine skipQ 56 87 ?_
                  simp only [Act.put, List.setIfInBounds_toArray, List.set_cons_zero, List.set_cons_succ]
                  refine skipQ 57 88 ?_
                  simp only [Act.put, List.setIfInBounds_toArray, List.set_cons_zero, List.set_cons_succ]
                  refine skipQ 58 89 ?_
                  simp only [Act.put, List.setIfInBounds_toArray, List.set_cons_zero, List.set_cons_succ]
                  refine skipQ 59 90 ?_
                  simp only [Act.put, List.setIfInBounds_toArray, List.set_cons_zero, List.set_cons_succ]
                  refine takeQ 60 91 ((.bool false)) ?_
                  simp only [Act.put, List.setIfInBounds_toArray, List.set_cons_zero, List.set_cons_succ]
                  refine wpAnyH_done (by kernel_rfl) ?_ _
                  have HBR := Lib.hid hHeld
                  clear hHeld
                  have HQ2 : Hid (∀ (q : Nat) (b : Dat), q < k + 1 → l[q]? = some b → clashB x b = false) := fun q b hq hb => by
                    by_cases e : q = k
                    · subst e
                      rw [HPK.out] at hb
                      cases hb
                      exact HE.out
                    · exact HQ.out q b (by omega) hb
                  go_wp2
                  go_roundg gk
                  case measure => omega
                  case rel => exact ⟨k + 1, by go_num, by omega, HQ2.out, HBR.out⟩
end Go.Proofs.YthdjlaombbeagaaGreat
