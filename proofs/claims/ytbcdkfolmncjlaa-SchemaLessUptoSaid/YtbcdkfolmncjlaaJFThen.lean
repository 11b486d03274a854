import Derived.RangeFuncBox
import Derived.Test.YtbcdkfolmncjlaaJOArgs
import Derived.Test.YtbcdkfolmncjlaaJSSet
import Derived.Test.YtbcdkfolmncjlaaJFLastP
import Derived.Test.YtbcdkfolmncjlaaJOWords
/-
  THE LAW SpanHas: its walk.
-/
namespace Go.Proofs.Ytbcdkfolmncjlaa
open Go.RowKit Go.Shelf

theorem told_set {f : Nat → Bool} {a b l : List Sp} (h : chosenL f a b l) (ha : setB a = true) (hb : setB b = true) (hka : ∀ s ∈ a, SpOk s) (hkb : ∀ s ∈ b, SpOk s) : setB l = true ∧ (∀ s ∈ l, SpOk s) ∧ ∀ x, minT ≤ x → innB l x = decide (wants f (innB a x) (innB b x)) := by
  obtain ⟨r, hr, rfl⟩ := h
  obtain ⟨h1, h2, h3⟩ := told_pick hr (live_of ha hka) (live_of hb hkb) (Int.le_refl _) f [] setL_nil (fun _ h => by cases h)
  refine ⟨decide_eq_true h1, h2, fun x hx => ?_⟩
  unfold innB
  rw [decide_eq_decide]
  refine (h3 x).trans ⟨fun k => ?_, fun k => .inr ⟨hx, k⟩⟩
  rcases k with k | k
  · omega
  · exact k.2
theorem wantsAnd_is (x y : Bool) : decide (wants wantsAnd x y) = (x && y) := by cases x <;> cases y <;> decide
theorem wantsMinus_is (x y : Bool) : decide (wants wantsMinus x y) = (x && !y) := by cases x <;> cases y <;> decide
theorem wantsOr_is (x y : Bool) : decide (wants wantsOr x y) = (x || y) := by cases x <;> cases y <;> decide
theorem inn_max {l : List Sp} {t : Int} (hk : ∀ s ∈ l, SpOk s) (ht : t = 9223372036854775807) : innB l t = false := decide_eq_false fun ⟨s, hs, _, h2⟩ => by
  have := (hk s hs).2.2
  unfold maxT at this
  omega
/-- an answer of Or, And, Minus, in slots' words -/
def chN (a b : List Sp) : Int := if (setB a && setB b) = true then 0 else 30
theorem chEnd_at {W W' : World} {f : Nat → Bool} {a b : List Sp} {e : Ending} (h : ChEnd W f a b e W') : (∃ A c l, e = .returned (.tuple #[.slice A l.length c, .int .i64 (chN a b)]) ∧ SlS W' W'.heap.size A l ∧ l.length ≤ c ∧ c ≤ maxLen ∧ ((setB a && setB b) = true → chosenL f a b l) ∧ l.length ≤ 2 * a.length + 2 * b.length) ∧ Below W.heap.size W W' := by
  obtain ⟨⟨h1, h2, l, v, h3, h4, rfl, h5⟩ | ⟨h1, rfl⟩, hb⟩ := h
  · obtain ⟨A, c, rfl, hs, k1, k2⟩ := h5.sls
    refine ⟨⟨A, c, l, ?_, hs, k1, k2, fun _ => h3, h4⟩, hb⟩
    unfold chN
    rw [h1, h2]; rfl
  · refine ⟨⟨none, 0, [], ?_, slS_nil _ _, Nat.le_refl _, Nat.zero_le _, fun h => (by rw [h1] at h; cases h), Nat.zero_le _⟩, hb⟩
    unfold chN
    rw [h1]; rfl

end Go.Proofs.Ytbcdkfolmncjlaa

/-
  CONTRACTS: Or, And, Minus by their instants; then.
-/
namespace Go.Proofs.Ytbcdkfolmncjlaa
open Go.RowKit Go.Shelf

/-- a slice's block is one of spans -/
def OfT (W : World) (A : Option Addr) (l : List Sp) : Prop := l ≠ [] → ∃ b o cs fr, A = some ⟨b, o, none⟩ ∧ W.heap[b]? = some (.cells cs 34 fr)
/-- a value that reads as a set's spans -/
def SV (W : World) (v : Value) (l : List Sp) : Prop := ∃ A c, v = .slice A l.length c ∧ SlS W W.heap.size A l ∧ l.length ≤ c ∧ c ≤ maxLen ∧ OfT W A l
theorem SV.next {W W' : World} {v : Value} {l : List Sp} (h : SV W v l) (hb : Below W.heap.size W W') : SV W' v l := by
  obtain ⟨A, c, e, h1, h2, h3, h4⟩ := h
  refine ⟨A, c, e, (h1.next hb (Nat.le_refl _)).more hb.size, h2, h3, fun hl => ?_⟩
  obtain ⟨b, o, cs, fr, e, hc⟩ := h4 hl
  exact ⟨b, o, cs, fr, e, (hb.block b (Array.getElem?_eq_some_iff.1 hc).1).trans hc⟩
theorem ownS_sv {W : World} {B : Nat} {v : Value} {l : List Sp} (h : OwnS W B v l) : SV W v l := by
  obtain ⟨A, c, e, h1, h2, h3⟩ := h.sls
  refine ⟨A, c, e, h1, h2, h3, fun hl => ?_⟩
  rcases h.2 with ⟨_, h0⟩ | ⟨g, cap, cur, e2, _, hgb, _⟩
  · exact absurd (List.length_eq_zero_iff.1 h0) hl
  · rw [e] at e2
    cases e2
    exact ⟨g, 0, _, _, rfl, hgb⟩
/-- What two sets put together answer. -/
def PutEnd (W : World) (p : Int → Prop) (e : Ending) (W' : World) : Prop := (∃ l v, e = .returned (.tuple #[v, .int .i64 0]) ∧ OwnS W' W.heap.size v l ∧ SetL l ∧ (∀ s ∈ l, SpOk s) ∧ ∀ t, Inn l t ↔ p t) ∧ Below W.heap.size W W'
theorem inn_low {l : List Sp} (h : ∀ s ∈ l, SpOk s) {t : Int} (ht : t < minT) : ¬ Inn l t := fun ⟨s, hs, h1, _⟩ => by
  have := (h s hs).1.1
  omega
theorem putEnd_of {W W' : World} {f : Nat → Bool} {a b : List Sp} {e : Ending} (p : Int → Prop) (h : ChEnd W f a b e W') (ha : SetL a) (hb : SetL b) (hka : ∀ s ∈ a, SpOk s) (hkb : ∀ s ∈ b, SpOk s)
    (hw : ∀ t, wants f (innB a t) (innB b t) ↔ p t) (hp : ∀ t, t < minT → ¬ p t) : PutEnd W p e W' := by
  obtain ⟨h1, h2⟩ := h
  have sa : setB a = true := decide_eq_true ha
  have sb : setB b = true := decide_eq_true hb
  rcases h1 with ⟨_, _, l, v, hch, _, rfl, ho⟩ | ⟨h3, _⟩
  · obtain ⟨k1, k2, k3⟩ := told_set hch sa sb hka hkb
    refine ⟨⟨l, v, rfl, ho, of_decide_eq_true k1, k2, fun t => ?_⟩, h2⟩
    by_cases ht : minT ≤ t
    · have := k3 t ht
      unfold innB at this
      rw [← hw t]
      unfold innB
      exact decide_eq_decide.1 this
    · exact ⟨fun g => absurd g (inn_low k2 (by omega)), fun g => absurd g (hp t (by omega))⟩
  · rw [sa, sb] at h3; cases h3
/-- What a turn and a later one answer. -/
def ThenEnd (E : List Int) (w : World) (x y : TurnP) (e : Ending) (w' : World) : Prop := (∃ z vi vo, e = .returned (.agg #[vi, vo]) ∧ SV w' vi z.i ∧ SV w' vo z.o ∧ TurnOk E z ∧ (∀ t, Inn z.i t ↔ (Inn x.i t ∧ ¬ Inn y.o t) ∨ Inn y.i t) ∧ ∀ t, Inn z.o t ↔ Inn x.o t ∨ Inn y.o t) ∧ Below w.heap.size w w'
end Go.Proofs.Ytbcdkfolmncjlaa
