/-
  WORDS for relations that are answered: rows that sorted leaves; RelEnd.
-/
import Derived.Test.YtafnhhbdcleihaaZPlaces
import Derived.Test.YtafnhhbdcleihaaZMay
import Derived.Test.YtafnhhbdcleihaaZOfL
namespace Go.Proofs.Ytafnhhbdcleihaa
open Go.RowKit

theorem owns_apart {W : World} {B B' : Nat} {t t' : TypeId} {k k' n n' : Nat} {v v' : Value} {xs xs' : List Value} (h : W.ownsRow B t k v n xs) (h' : W.ownsRow B' t' k' v' n' xs') (ht : t ≠ t') : ∀ b1 b2 n1 k1 n2 k2, v = .slice (some b1) n1 k1 → v' = .slice (some b2) n2 k2 → b1.block ≠ b2.block := by
  intro b1 b2 n1 k1 n2 k2 e1 e2 e3
  subst e1 e2
  rcases h.2 with ⟨ea, _⟩ | ⟨g, cap, cur, ea, _, hga, _⟩
  · cases ea
  · rcases h'.2 with ⟨eb, _⟩ | ⟨g', cap', cur', eb, _, hgb, _⟩
    · cases eb
    · injection ea with ea
      injection ea with ea
      injection eb with eb
      injection eb with eb
      rw [ea, eb] at e3
      simp only at e3
      subst e3
      rw [hga] at hgb
      injection hgb with hgb
      injection hgb with _ hgb _
      exact ht hgb
theorem owns_kp {W W' : World} {B B' g c : Nat} {t t' : TypeId} {k k' n n' m : Nat} {v : Value} {xs xs' : List Value} (h : W.ownsRow B t k v n xs) (h' : W.ownsRow B' t' k' (.slice (some ⟨g, 0, none⟩) m c) n' xs') (ht : t ≠ t') (hk : Kp g W W') : W'.ownsRow B t k v n xs := by
  refine ⟨h.1, ?_⟩
  rcases h.2 with h0 | ⟨g1, cap, cur, h1, h2, h3, h4⟩
  · exact .inl h0
  · refine .inr ⟨g1, cap, cur, h1, h2, (hk.b g1 ?_ (Array.getElem?_eq_some_iff.1 h3).1).trans h3, h4⟩
    intro e
    exact owns_apart h h' ht _ _ _ _ _ _ h1 rfl e
theorem ownR_rwN {W : World} {B : Nat} {v : Value} {R : List Rw} (h : OwnR W B v R) (g : Nat) (hv : ∃ n c, v = .slice (some ⟨g, 0, none⟩) n c) : ∀ r ∈ R, RwN W g r := fun r hr => by
  obtain ⟨n, c, rfl⟩ := hv
  refine ⟨(h.i r hr).rwOk (h.z r hr), fun hne b o e e2 => ?_⟩
  have := owns_apart (h.i r hr) h.o (by decide) ⟨b, o, none⟩ ⟨g, 0, none⟩ _ _ _ _ (by unfold cellR; rw [e]) rfl
  exact this e2
/-- what sorted answers, of rows that are the call's own -/
theorem sorted_own {w w' : World} {B : Nat} {v : Value} {R : List Rw} {e : Ending} (ho : OwnR w B v R)
    (h : ∃ A n c, v = .slice A n c ∧ (∀ a, A = some a → ∃ g, a = ⟨g, 0, none⟩ ∧ B ≤ g ∧ g < w.heap.size) ∧ SortEnd R w A e w') :
    ∃ A c R', e = .returned (.slice A R'.length c) ∧ AnsR w' B (.slice A R'.length c) R' ∧ txR R' = putsG ordR (txR R) ∧ Below B w w' ∧ (∀ a, A = some a → ∃ n c, v = .slice (some a) n c) ∧ (∀ (v2 : Value) (l : List ByteArray) B2, OwnC w B2 v2 l → OwnC w' B2 v2 l) := by
  obtain ⟨A, n, c, rfl, hg, R', c', ht, hin, he, hlc, hcm, hs, hrow, hn⟩ := h
  have hans := ho.ans
  obtain ⟨A1, c1, e1, _, _, _, _, hap⟩ := hans.f
  injection e1 with e1 e2 e3
  subst e1 e2 e3
  refine ⟨A, c', R', he, ⟨⟨A, c', rfl, hs, hlc, hcm, fun e => (hn e).2, fun x hx hne a b ha hb => hap x (hin x hx) hne a b ha hb⟩, fun x hx => ?_, fun x hx => ho.z x (hin x hx)⟩, ht, ?_, fun a e => ⟨_, _, by rw [e]⟩, fun v2 l B2 hc => ?_⟩
  · cases A with
    | none => rw [← (hn rfl).1]; exact ho.i x (hin x hx)
    | some a =>
      obtain ⟨g, rfl, _, _⟩ := hg a rfl
      exact owns_kp (ho.i x (hin x hx)) ho.o (by decide) (hrow g rfl).2
  · cases A with
    | none => rw [← (hn rfl).1]; exact Below.refl _ _
    | some a =>
      obtain ⟨g, rfl, h1, h2⟩ := hg a rfl
      exact (hrow g rfl).2.below h1 h2
  · cases A with
    | none => rw [← (hn rfl).1]; exact hc
    | some a =>
      obtain ⟨g, rfl, h1, h2⟩ := hg a rfl
      exact owns_kp hc ho.o (by decide) (hrow g rfl).2
/-- a relation that the program answers, with its error -/
def RelEnd (w : World) (cols : List ByteArray) (T : List (List Vl)) (code : Int) (e : Ending) (w' : World) : Prop :=
  Below w.heap.size w w' ∧ ∃ vc vr c2 R2, e = .returned (.tuple #[.agg #[vc, vr], .int .i64 code]) ∧ OwnC w' w.heap.size vc c2 ∧ AnsR w' w.heap.size vr R2 ∧ (∀ b1 b2 n1 k1 n2 k2, vc = .slice (some b1) n1 k1 → vr = .slice (some b2) n2 k2 → b1.block ≠ b2.block) ∧ (∀ a n c, vr = .slice (some a) n c → w.heap.size ≤ a.block) ∧ c2 = (if code = 0 then cols else []) ∧ txR R2 = (if code = 0 then T else [])
theorem relEnd_no {w w' : World} {cols : List ByteArray} {T : List (List Vl)} {code : Int} (hc : code ≠ 0) (hb : Below w.heap.size w w') : RelEnd w cols T code (.returned (.tuple #[.agg #[.slice none 0 0, .slice none 0 0], .int .i64 code])) w' :=
  ⟨hb, _, _, [], [], rfl, own1_nil _ _ _ _, ansR_nil _ _, (fun b1 b2 n1 k1 n2 k2 e1 => by cases e1), (fun a n c e => by cases e), by rw [if_neg hc], by rw [if_neg hc]; rfl⟩
theorem RelEnd.of_of {w w' : World} {cols : List ByteArray} {R : List Rw} {e : Ending} (h : OfEnd w cols R e w') : RelEnd w cols (putsG ordR (txR R)) (ofC cols R) e w' := by
  obtain ⟨hb, vc, vr, he, h⟩ := h
  have hfl : ∀ a n c, vr = .slice (some a) n c → w.heap.size ≤ a.block := fun a n c e => by
    rcases h with ⟨_, _, R', hr, _⟩ | ⟨_, _, e2⟩
    · obtain ⟨A, c', e2, _, _, _, _, hg⟩ := hr.form
      rw [e] at e2
      injection e2 with e2
      obtain ⟨g, e3, h1, _⟩ := hg a e2.symm
      rw [e3]; exact h1
    · rw [e] at e2; cases e2
  obtain ⟨c2, R2, h1, h2, h3, h4, h5⟩ := ofEnd_ans h
  exact ⟨hb, vc, vr, c2, R2, he, h1, h2, h3, hfl, h4, h5⟩
theorem AnsR.set {W : World} {B : Nat} {v : Value} {R : List Rw} (h : AnsR W B v R) {b : Nat} (hb : b < B) (hB : ∀ A n c, v = .slice (some A) n c → B ≤ A.block) (o : Nat) (u : Value) : AnsR (W.setCell ⟨b, o, none⟩ u) B v R := by
  obtain ⟨⟨A, c, e, hs, h1, h2, h3, h4⟩, hi, hz⟩ := h
  refine ⟨⟨A, c, e, fun hne => ?_, h1, h2, h3, h4⟩, fun x hx => owns_set (hi x hx) hb o u, hz⟩
  obtain ⟨g, og, eA, hlt, hc⟩ := hs hne
  refine ⟨g, og, eA, by simpa using hlt, fun j x hx => ?_⟩
  have hBg : B ≤ g := hB ⟨g, og, none⟩ _ _ (by rw [e, eA])
  rw [World.cell?_setCell_other _ _ _ _ (by intro h; injection h with h; omega)]
  exact hc j x hx
theorem AnsR.low {W : World} {B B' : Nat} {v : Value} {R : List Rw} (h : AnsR W B v R) (hB : B' ≤ B) : AnsR W B' v R := ⟨h.f, fun x hx => (h.i x hx).low hB, h.z⟩
end Go.Proofs.Ytafnhhbdcleihaa
