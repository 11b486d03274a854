/-
  THE LAW SpanHas: its walk.
-/
import Derived.Test.YthhkabbgghepbaaGreatJDSl
import Derived.Test.YthhkabbgghepbaaGreatJSHas
namespace Go.Proofs.YthhkabbgghepbaaGreat
open Go.RowKit Go.Shelf

theorem told_set {f : Nat → Bool} {a b l : List Sp} (h : chosenL f a b l) (ha : setB a = true) (hb : setB b = true) (hka : ∀ s ∈ a, SpOk s) (hkb : ∀ s ∈ b, SpOk s) : setB l = true ∧ (∀ s ∈ l, SpOk s) ∧ ∀ x, minT ≤ x → innB l x = decide (wants f (innB a x) (innB b x)) := by
  obtain ⟨r, hr, rfl⟩ := h
  obtain ⟨h1, h2, h3⟩ := told_pick hr (live_of ha hka) (live_of hb hkb) (Int.le_refl _) f [] setL_nil (fun _ h => by cases h)
  refine ⟨decide_eq_true h1, h2, fun x hx => ?_⟩
  unfold innB
  rw [decide_eq_decide]
  refine (h3 x).trans ⟨fun k => ?_, fun k => .inr ⟨hx, k⟩⟩
  rcases k with k | k
  · omega
  · exact k.2
theorem wantsAnd_is (x y : Bool) : decide (wants wantsAnd x y) = (x && y) := by cases x <;> cases y <;> decide
theorem wantsMinus_is (x y : Bool) : decide (wants wantsMinus x y) = (x && !y) := by cases x <;> cases y <;> decide
theorem wantsOr_is (x y : Bool) : decide (wants wantsOr x y) = (x || y) := by cases x <;> cases y <;> decide
theorem inn_max {l : List Sp} {t : Int} (hk : ∀ s ∈ l, SpOk s) (ht : t = 9223372036854775807) : innB l t = false := decide_eq_false fun ⟨s, hs, _, h2⟩ => by
  have := (hk s hs).2.2
  unfold maxT at this
  omega
theorem has_is (A : Option Addr) (c : Nat) (l : List Sp) (t : Int) (w : World) (v : Bool) (hv : (setB l && innB l t) = v) (hs : SlS w w.heap.size A l) (hl : l.length ≤ 100000) :
    Calls Tryz.prog 52 #[.slice A l.length c, .int .i64 t] w fun e w' => e = .returned (.bool v) ∧ Below w.heap.size w w' := by
  subst hv; exact hasS_any A c l t w hs hl
/-- an answer of Or, And, Minus, in slots' words -/
def chN (a b : List Sp) : Int := if (setB a && setB b) = true then 0 else 30
theorem chEnd_at {W W' : World} {f : Nat → Bool} {a b : List Sp} {e : Ending} (h : ChEnd W f a b e W') : (∃ A c l, e = .returned (.tuple #[.slice A l.length c, .int .i64 (chN a b)]) ∧ SlS W' W'.heap.size A l ∧ l.length ≤ c ∧ c ≤ maxLen ∧ ((setB a && setB b) = true → chosenL f a b l) ∧ l.length ≤ 2 * a.length + 2 * b.length) ∧ Below W.heap.size W W' := by
  obtain ⟨⟨h1, h2, l, v, h3, h4, rfl, h5⟩ | ⟨h1, rfl⟩, hb⟩ := h
  · obtain ⟨A, c, rfl, hs, k1, k2⟩ := h5.sls
    refine ⟨⟨A, c, l, ?_, hs, k1, k2, fun _ => h3, h4⟩, hb⟩
    unfold chN
    rw [h1, h2]; rfl
  · refine ⟨⟨none, 0, [], ?_, slS_nil _ _, Nat.le_refl _, Nat.zero_le _, fun h => (by rw [h1] at h; cases h), Nat.zero_le _⟩, hb⟩
    unfold chN
    rw [h1]; rfl

end Go.Proofs.YthhkabbgghepbaaGreat
