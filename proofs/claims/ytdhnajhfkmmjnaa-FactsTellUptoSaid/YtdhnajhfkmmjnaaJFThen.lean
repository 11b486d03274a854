import Derived.RangeFuncBox
import Derived.Test.YtdhnajhfkmmjnaaJSSet
import Derived.Test.YtdhnajhfkmmjnaaJDSl
import Derived.Test.YtdhnajhfkmmjnaaJFLastP
import Derived.Test.YtdhnajhfkmmjnaaJOWords
/-
  CONTRACT: Has.
-/
namespace Go.Proofs.Ytdhnajhfkmmjnaa
open Go.RowKit

def inS (s : Sp) (t : Int) : Bool := decide (s.1 ≤ t) && decide (t < s.2)
theorem innB_any (l : List Sp) (t : Int) : innB l t = l.any fun s => inS s t := by
  rw [Bool.eq_iff_iff]
  unfold innB inS
  rw [decide_eq_true_iff, List.any_eq_true]
  constructor
  · rintro ⟨s, h, h1, h2⟩; exact ⟨s, h, by simp [h1, h2]⟩
  · rintro ⟨s, h, h1⟩
    simp only [Bool.and_eq_true, decide_eq_true_eq] at h1
    exact ⟨s, h, h1.1, h1.2⟩
set_option maxHeartbeats 1000000 in
theorem has1_any (x y t : Int) (Bt : Nat) (w : World) (v : Bool) (hv : inS (x, y) t = v) (hb : w.cell? ⟨Bt, 0, none⟩ = some (.int .i64 t)) (hlt : Bt < w.heap.size) :
    Calls Try.prog 66 #[.agg #[.int .i64 x, .int .i64 y], .pointer (some ⟨Bt, 0, none⟩)] w fun e w' => e = .returned (.bool v) ∧ Below w.heap.size w w' := by
  have b0 : (w.alloc (.cells #[.int .i64 x, .int .i64 y] 66)).cell? ⟨Bt, 0, none⟩ = some (.int .i64 t) := (World.cell?_alloc_lt _ _ ⟨Bt, 0, none⟩ hlt).trans hb
  subst hv
  clear hb
  by_cases h1 : x ≤ t
  · by_cases h2 : t < y
    · have e : Hid (inS (x, y) t = true) := by show _ = _; unfold inS; simp [h1, h2]
      go_enter Try.func66, Try.ntmps66
      go_wp2
      go_ret
      exact ⟨by rw [e.out]; rfl, (Below.refl _ _).alloc (Nat.le_refl _) _⟩
    · have e : Hid (inS (x, y) t = false) := by show _ = _; unfold inS; simp [h2]
      go_enter Try.func66, Try.ntmps66
      go_wp2
      go_ret
      exact ⟨by rw [e.out]; rfl, (Below.refl _ _).alloc (Nat.le_refl _) _⟩
  · have e : Hid (inS (x, y) t = false) := by show _ = _; unfold inS; simp [h1]
    have h1' : decide (x ≤ t) = false := decide_eq_false h1
    go_enter Try.func66, Try.ntmps66
    go_wp2
    go_ret
    exact ⟨by rw [e.out]; rfl, (Below.refl _ _).alloc (Nat.le_refl _) _⟩

set_option maxRecDepth 100000 in
set_option maxHeartbeats 1000000 in
theorem indexS_any (A : Option Addr) (c : Nat) (l : List Sp) (t : Int) (Bt : Nat) (w : World) (hs : SlS w w.heap.size A l) (hl : l.length ≤ 100000) (hb : w.cell? ⟨Bt, 0, none⟩ = some (.int .i64 t)) (hlt : Bt < w.heap.size) :
    Calls Try.prog 110 #[.slice A l.length c, .func (.func 66) #[] #[.pointer (some ⟨Bt, 0, none⟩)]] w fun e w' => (∃ k : Int, e = .returned (.int .i64 k) ∧ (innB l t = true ∧ 0 ≤ k ∨ innB l t = false ∧ k = -1)) ∧ Below w.heap.size w w' := by
  have HS := Lib.hid hs
  have HT := Lib.hid hb
  clear hs hb
  go_enter Try.func110, Try.ntmps110
  go_wp2
  go_loopg [5, 8] l.length (fun g _ y wr => ∃ j : Nat, y = .int .i64 j ∧ j + g = l.length ∧ Hid ((l.take j).any (fun s => inS s t) = false) ∧ Hid (Below w.heap.size w wr))
  case atStart => exact ⟨0, rfl, by omega, rfl, Below.refl _ _⟩
  case round =>
    obtain ⟨j, rfl, hj, HN, HB⟩ := hrel
    cases gk with
    | zero =>
      have hjz : ¬ ((j : Int) < (l.length : Int)) := by omega
      have HE : Hid (innB l t = false) := by
        show _ = _
        rw [innB_any]
        have := HN.out
        rwa [List.take_of_length_le (by omega)] at this
      go_wp2
      go_ret
      exact ⟨⟨_, rfl, .inr ⟨HE.out, rfl⟩⟩, HB.out⟩
    | succ g =>
      have hjz : (j : Int) < (l.length : Int) := by omega
      have hjn : j < l.length := by omega
      obtain ⟨b, o, rfl, _, hp⟩ := (HS.out.next HB.out (Nat.le_refl _)).at_ hjn
      have hts := List.take_succ_eq_append_getElem hjn
      obtain ⟨⟨x, y⟩, hse⟩ : ∃ s, l[j] = s := ⟨_, rfl⟩
      have hmem : (x, y) ∈ l := by rw [← hse]; exact List.getElem_mem hjn
      rw [hse] at hp hts
      have c0 := hp.c0
      have c1 := hp.c1
      have HTS := Lib.hid hts
      have HM := Lib.hid hmem
      have hbz := HB.out.size
      have hbt := (HB.out.cell (p := ⟨Bt, 0, none⟩) hlt).trans HT.out
      have HBT := Lib.hid hbt
      clear hp hse hts hbt hmem
      cases hv : inS (x, y) t
      · have HW := Lib.hid (fun X h1 h2 => has1_any x y t Bt X false hv h1 h2)
        have HST : Hid ((l.take (j + 1)).any (fun s => inS s t) = false) := by show _ = _; rw [HTS.out, List.any_append, HN.out]; simp [hv]
        clear hv
        go_wp2_with fail
        refine (HW.out _ HBT.out (by omega)).mono ?_
        rintro e w9 ⟨rfl, hb9⟩
        have HB9 := Lib.hid (HB.out.trans (hb9.mono hbz))
        clear hb9 c0 c1
        go_wp2
        go_roundg g
        case measure => omega
        case rel => exact ⟨j + 1, by go_num, by omega, HST.out, HB9.out⟩
      · have HW := Lib.hid (fun X h1 h2 => has1_any x y t Bt X true hv h1 h2)
        have HE : Hid (innB l t = true) := by show _ = _; rw [innB_any, List.any_eq_true]; exact ⟨_, HM.out, hv⟩
        clear hv
        go_wp2_with fail
        refine (HW.out _ HBT.out (by omega)).mono ?_
        rintro e w9 ⟨rfl, hb9⟩
        have HB9 := Lib.hid (HB.out.trans (hb9.mono hbz))
        clear hb9 c0 c1
        go_wp2
        go_ret
        exact ⟨⟨_, rfl, .inl ⟨HE.out, by omega⟩⟩, HB9.out⟩

set_option maxHeartbeats 1000000 in
theorem containsS_any (A : Option Addr) (c : Nat) (l : List Sp) (t : Int) (Bt : Nat) (w : World) (hs : SlS w w.heap.size A l) (hl : l.length ≤ 100000) (hb : w.cell? ⟨Bt, 0, none⟩ = some (.int .i64 t)) (hlt : Bt < w.heap.size) :
    Calls Try.prog 65 #[.slice A l.length c, .func (.func 66) #[] #[.pointer (some ⟨Bt, 0, none⟩)]] w fun e w' => e = .returned (.bool (innB l t)) ∧ Below w.heap.size w w' := by
  have HC := Lib.hid (indexS_any A c l t Bt w hs hl hb hlt)
  clear hs hb
  go_enter Try.func65, Try.ntmps65
  go_wp2_with fail
  refine HC.out.mono ?_
  rintro e w' ⟨⟨k, rfl, h⟩, hb⟩
  have HB := Lib.hid hb
  rcases h with ⟨h1, h2⟩ | ⟨h1, rfl⟩
  · have HE := Lib.hid h1
    have hd : decide ((0 : Int) ≤ k) = true := decide_eq_true h2
    clear h1 hb
    go_wp2
    go_ret
    exact ⟨by rw [HE.out]; rfl, HB.out⟩
  · have HE := Lib.hid h1
    clear h1 hb
    go_wp2
    go_ret
    exact ⟨by rw [HE.out]; rfl, HB.out⟩

set_option maxHeartbeats 1000000 in
theorem hasS_any (A : Option Addr) (c : Nat) (l : List Sp) (t : Int) (w : World) (hs : SlS w w.heap.size A l) (hl : l.length ≤ 100000) :
    Calls Try.prog 41 #[.slice A l.length c, .int .i64 t] w fun e w' => e = .returned (.bool (setB l && innB l t)) ∧ Below w.heap.size w w' := by
  have HB0 : Hid (Below w.heap.size w (w.alloc (.cells #[.int .i64 t] 2))) := (Below.refl _ _).alloc (Nat.le_refl _) _
  have HX := Lib.hid (Boxed.new w 2 (.int .i64 t))
  have HS := Lib.hid hs
  clear hs
  go_enter Try.func41, Try.ntmps41
  cases hv : setB l
  · have HIS := Lib.hid (fun X h => by have h9 := isSet_any A c l X h hl; rw [hv] at h9; exact h9)
    clear hv
    go_wp2_with fail
    refine (HIS.out _ ((HS.out.next HB0.out (Nat.le_refl _)).more HB0.out.size)).mono ?_
    rintro e w1 ⟨rfl, hb1⟩
    have HB1 := Lib.hid (HB0.out.trans (hb1.mono HB0.out.size))
    clear hb1
    go_wp2
    go_ret
    exact ⟨rfl, HB1.out⟩
  · have HIS := Lib.hid (fun X h => by have h9 := isSet_any A c l X h hl; rw [hv] at h9; exact h9)
    clear hv
    go_wp2_with fail
    refine (HIS.out _ ((HS.out.next HB0.out (Nat.le_refl _)).more HB0.out.size)).mono ?_
    rintro e w1 ⟨rfl, hb1⟩
    have HB1 := Lib.hid (HB0.out.trans (hb1.mono HB0.out.size))
    have HX1 := Lib.hid (show Boxed w1 _ _ _ from (hb1.block w.heap.size (by simp)).trans HX.out)
    have HS1 := Lib.hid ((HS.out.next HB1.out (Nat.le_refl _)).more HB1.out.size)
    clear hb1
    go_wp2_with fail
    refine (containsS_any A c l t w.heap.size _ HS1.out hl HX1.out.cell HX1.out.lt).mono ?_
    rintro e w2 ⟨rfl, hb2⟩
    have HB2 := Lib.hid (HB1.out.trans (hb2.mono HB1.out.size))
    clear hb2
    go_wp2
    go_ret
    exact ⟨rfl, HB2.out⟩
end Go.Proofs.Ytdhnajhfkmmjnaa

/-
  THE LAW SpanHas: its walk.
-/
namespace Go.Proofs.Ytdhnajhfkmmjnaa
open Go.RowKit Go.Shelf

theorem told_set {f : Nat → Bool} {a b l : List Sp} (h : chosenL f a b l) (ha : setB a = true) (hb : setB b = true) (hka : ∀ s ∈ a, SpOk s) (hkb : ∀ s ∈ b, SpOk s) : setB l = true ∧ (∀ s ∈ l, SpOk s) ∧ ∀ x, minT ≤ x → innB l x = decide (wants f (innB a x) (innB b x)) := by
  obtain ⟨r, hr, rfl⟩ := h
  obtain ⟨h1, h2, h3⟩ := told_pick hr (live_of ha hka) (live_of hb hkb) (Int.le_refl _) f [] setL_nil (fun _ h => by cases h)
  refine ⟨decide_eq_true h1, h2, fun x hx => ?_⟩
  unfold innB
  rw [decide_eq_decide]
  refine (h3 x).trans ⟨fun k => ?_, fun k => .inr ⟨hx, k⟩⟩
  rcases k with k | k
  · omega
  · exact k.2
theorem wantsAnd_is (x y : Bool) : decide (wants wantsAnd x y) = (x && y) := by cases x <;> cases y <;> decide
theorem wantsMinus_is (x y : Bool) : decide (wants wantsMinus x y) = (x && !y) := by cases x <;> cases y <;> decide
theorem wantsOr_is (x y : Bool) : decide (wants wantsOr x y) = (x || y) := by cases x <;> cases y <;> decide
theorem inn_max {l : List Sp} {t : Int} (hk : ∀ s ∈ l, SpOk s) (ht : t = 9223372036854775807) : innB l t = false := decide_eq_false fun ⟨s, hs, _, h2⟩ => by
  have := (hk s hs).2.2
  unfold maxT at this
  omega
theorem has_is (A : Option Addr) (c : Nat) (l : List Sp) (t : Int) (w : World) (v : Bool) (hv : (setB l && innB l t) = v) (hs : SlS w w.heap.size A l) (hl : l.length ≤ 100000) :
    Calls Try.prog 41 #[.slice A l.length c, .int .i64 t] w fun e w' => e = .returned (.bool v) ∧ Below w.heap.size w w' := by
  subst hv; exact hasS_any A c l t w hs hl
/-- an answer of Or, And, Minus, in slots' words -/
def chN (a b : List Sp) : Int := if (setB a && setB b) = true then 0 else 30
theorem chEnd_at {W W' : World} {f : Nat → Bool} {a b : List Sp} {e : Ending} (h : ChEnd W f a b e W') : (∃ A c l, e = .returned (.tuple #[.slice A l.length c, .int .i64 (chN a b)]) ∧ SlS W' W'.heap.size A l ∧ l.length ≤ c ∧ c ≤ maxLen ∧ ((setB a && setB b) = true → chosenL f a b l) ∧ l.length ≤ 2 * a.length + 2 * b.length) ∧ Below W.heap.size W W' := by
  obtain ⟨⟨h1, h2, l, v, h3, h4, rfl, h5⟩ | ⟨h1, rfl⟩, hb⟩ := h
  · obtain ⟨A, c, rfl, hs, k1, k2⟩ := h5.sls
    refine ⟨⟨A, c, l, ?_, hs, k1, k2, fun _ => h3, h4⟩, hb⟩
    unfold chN
    rw [h1, h2]; rfl
  · refine ⟨⟨none, 0, [], ?_, slS_nil _ _, Nat.le_refl _, Nat.zero_le _, fun h => (by rw [h1] at h; cases h), Nat.zero_le _⟩, hb⟩
    unfold chN
    rw [h1]; rfl

end Go.Proofs.Ytdhnajhfkmmjnaa

/-
  CONTRACTS: Or, And, Minus by their instants; then.
-/
namespace Go.Proofs.Ytdhnajhfkmmjnaa
open Go.RowKit Go.Shelf

/-- a slice's block is one of spans -/
def OfT (W : World) (A : Option Addr) (l : List Sp) : Prop := l ≠ [] → ∃ b o cs fr, A = some ⟨b, o, none⟩ ∧ W.heap[b]? = some (.cells cs 66 fr)
/-- a value that reads as a set's spans -/
def SV (W : World) (v : Value) (l : List Sp) : Prop := ∃ A c, v = .slice A l.length c ∧ SlS W W.heap.size A l ∧ l.length ≤ c ∧ c ≤ maxLen ∧ OfT W A l
theorem SV.next {W W' : World} {v : Value} {l : List Sp} (h : SV W v l) (hb : Below W.heap.size W W') : SV W' v l := by
  obtain ⟨A, c, e, h1, h2, h3, h4⟩ := h
  refine ⟨A, c, e, (h1.next hb (Nat.le_refl _)).more hb.size, h2, h3, fun hl => ?_⟩
  obtain ⟨b, o, cs, fr, e, hc⟩ := h4 hl
  exact ⟨b, o, cs, fr, e, (hb.block b (Array.getElem?_eq_some_iff.1 hc).1).trans hc⟩
theorem ownS_sv {W : World} {B : Nat} {v : Value} {l : List Sp} (h : OwnS W B v l) : SV W v l := by
  obtain ⟨A, c, e, h1, h2, h3⟩ := h.sls
  refine ⟨A, c, e, h1, h2, h3, fun hl => ?_⟩
  rcases h.2 with ⟨_, h0⟩ | ⟨g, cap, cur, e2, _, hgb, _⟩
  · exact absurd (List.length_eq_zero_iff.1 h0) hl
  · rw [e] at e2
    cases e2
    exact ⟨g, 0, _, _, rfl, hgb⟩
/-- What two sets put together answer. -/
def PutEnd (W : World) (p : Int → Prop) (e : Ending) (W' : World) : Prop := (∃ l v, e = .returned (.tuple #[v, .int .i64 0]) ∧ OwnS W' W.heap.size v l ∧ SetL l ∧ (∀ s ∈ l, SpOk s) ∧ ∀ t, Inn l t ↔ p t) ∧ Below W.heap.size W W'
theorem inn_low {l : List Sp} (h : ∀ s ∈ l, SpOk s) {t : Int} (ht : t < minT) : ¬ Inn l t := fun ⟨s, hs, h1, _⟩ => by
  have := (h s hs).1.1
  omega
theorem putEnd_of {W W' : World} {f : Nat → Bool} {a b : List Sp} {e : Ending} (p : Int → Prop) (h : ChEnd W f a b e W') (ha : SetL a) (hb : SetL b) (hka : ∀ s ∈ a, SpOk s) (hkb : ∀ s ∈ b, SpOk s)
    (hw : ∀ t, wants f (innB a t) (innB b t) ↔ p t) (hp : ∀ t, t < minT → ¬ p t) : PutEnd W p e W' := by
  obtain ⟨h1, h2⟩ := h
  have sa : setB a = true := decide_eq_true ha
  have sb : setB b = true := decide_eq_true hb
  rcases h1 with ⟨_, _, l, v, hch, _, rfl, ho⟩ | ⟨h3, _⟩
  · obtain ⟨k1, k2, k3⟩ := told_set hch sa sb hka hkb
    refine ⟨⟨l, v, rfl, ho, of_decide_eq_true k1, k2, fun t => ?_⟩, h2⟩
    by_cases ht : minT ≤ t
    · have := k3 t ht
      unfold innB at this
      rw [← hw t]
      unfold innB
      exact decide_eq_decide.1 this
    · exact ⟨fun g => absurd g (inn_low k2 (by omega)), fun g => absurd g (hp t (by omega))⟩
  · rw [sa, sb] at h3; cases h3
theorem minus_any (a b : List Sp) (va vb : Value) (w : World) (hva : SV w va a) (hvb : SV w vb b) (ha : SetL a) (hb : SetL b) (hka : ∀ s ∈ a, SpOk s) (hkb : ∀ s ∈ b, SpOk s) (hl : 2 * a.length + 2 * b.length ≤ 20000) :
    Calls Try.prog 44 #[va, vb] w (PutEnd w (fun t => Inn a t ∧ ¬ Inn b t)) := by
  obtain ⟨A, c, rfl, h1, h2, h3, _⟩ := hva
  obtain ⟨A', c', rfl, h1', h2', h3', _⟩ := hvb
  refine (spanMinus_any A A' c c' a b w h1 h1' h2 h3 h2' h3' hl hka hkb).mono fun e W' h => putEnd_of _ h ha hb hka hkb (fun t => ?_) (fun t ht h => inn_low hka ht h.1)
  unfold wants wantsMinus whoN innB
  by_cases h5 : Inn a t <;> by_cases h6 : Inn b t <;> simp [h5, h6]
/-- What a turn and a later one answer. -/
def ThenEnd (E : List Int) (w : World) (x y : TurnP) (e : Ending) (w' : World) : Prop := (∃ z vi vo, e = .returned (.agg #[vi, vo]) ∧ SV w' vi z.i ∧ SV w' vo z.o ∧ TurnOk E z ∧ (∀ t, Inn z.i t ↔ (Inn x.i t ∧ ¬ Inn y.o t) ∨ Inn y.i t) ∧ ∀ t, Inn z.o t ↔ Inn x.o t ∨ Inn y.o t) ∧ Below w.heap.size w w'
end Go.Proofs.Ytdhnajhfkmmjnaa
