import Derived.Test.YtofmfainhflmmaaJZCmp
import Derived.Maps.AppendAt
import Derived.Test.YtofmfainhflmmaaJZAt
import Derived.Test.YtofmfainhflmmaaJZGath
import Derived.Test.YtofmfainhflmmaaJZTold
import Derived.Test.YtofmfainhflmmaaJZHeap
/-
  A DRAWN REGION BY AN INVARIANT: what holds behind each set of operations that have come up, in whatever order they came.
-/
namespace Go.Proofs.Ytofmfainhflmmaa
open Go.RowKit

section
variable {P : Program} {ops : Array Oper} {Q : Exit → Act → World → Prop} {md : Region.Mode} {S : World → Prop}

/-- an invariant of what has come up, the slots and the world; each operation that may come up is wanted and keeps it; `m` tells how many are still to come -/
theorem wpAnyH_inv (I : Array Bool → Act → World → Prop) (m : Array Bool → Nat)
    (hm : ∀ listed a w i, I listed a w → i ∈ Region.ready md ops listed → m (listed.setIfInBounds i true) < m listed)
    (hstep : ∀ listed a w i, I listed a w → i ∈ Region.ready md ops listed → ∃ oi, ops[i]? = some oi ∧ Region.wanted oi (yielded ops a.tmps) = true ∧ ∀ K' : Act → World → Prop, Shut (∀ a' w', S w' ∧ I (listed.setIfInBounds i true) a' w' → K' a' w') → Oper.wp P oi a w K' Q)
    (hdone : ∀ listed a w, I listed a w → Region.ready md ops listed = [] → Q .normal a w) :
    ∀ (fuel : Nat) (listed : Array Bool) (a : Act) (w : World), m listed ≤ fuel → I listed a w → wpAnyH P md ops Q S fuel listed a w := by
  intro fuel
  induction fuel with
  | zero =>
    intro listed a w hf hI
    have h0 : Region.ready md ops listed = [] := by
      cases hr : Region.ready md ops listed with
      | nil => rfl
      | cons i r =>
        have := hm listed a w i hI (by rw [hr]; exact List.mem_cons_self ..)
        omega
    exact ⟨h0, hdone listed a w hI h0⟩
  | succ fuel ih =>
    intro listed a w hf hI
    cases hr : Region.ready md ops listed with
    | nil => exact wpAnyH_done hr (hdone listed a w hI hr) (fuel + 1)
    | cons i r =>
      refine wpAnyH_ready hr (by simp) ?_
      rw [← hr]
      intro j hj
      obtain ⟨oj, hoj, hw, hs⟩ := hstep listed a w j hI hj
      have hmj := hm listed a w j hI hj
      exact AllReadyH.cons hoj (fun K' hK => by
        rw [if_pos hw]
        exact hs K' (fun a' w' h => hK.out a' w' h.1 (fun _ => ih _ a' w' (by omega) h.2))) AllReadyH.nil j (List.mem_cons_self ..)
end
end Go.Proofs.Ytofmfainhflmmaa

/-
  ROWS OF PLACES of the call's own, no two in one block; one grown by one; one made.
-/
namespace Go.Proofs.Ytofmfainhflmmaa
open Go.RowKit

theorem infoInt : (Try.prog.info? 3).map (fun i => (i.zero, i.size, i.bytes)) = some (some (.int .i64 0), 1, 8) := by kernel_rfl
/-- rows of places, no two in one block -/
structure Rws (W : World) (base : Nat) (rs : List (Value × List Nat)) : Prop where
  o : ∀ (i : Nat) (x : Value × List Nat), rs[i]? = some x → Own1 3 natV W base x.1 x.2
  ap : ∀ (i j : Nat) (x y : Value × List Nat), i ≠ j → rs[i]? = some x → rs[j]? = some y → ∀ k, x.1.ownBlock = some k → y.1.ownBlock ≠ some k
theorem Rws.next {W W' : World} {base : Nat} {rs : List (Value × List Nat)} (h : Rws W base rs) (hb : Below W.heap.size W W') : Rws W' base rs :=
  ⟨fun i x hx => (h.o i x hx).next hb, h.ap⟩
/-- one of them turned: grown where it stood, or made anew -/
theorem Rws.turn {W W' : World} {base : Nat} {rs : List (Value × List Nat)} (h : Rws W base rs) (i : Nat) {x : Value × List Nat} (hx : rs[i]? = some x) {v' : Value} {l' : List Nat} (ho : Own1 3 natV W' base v' l') (hg : W.grownBy W' x.1.ownBlock)
    (hv : v'.ownBlock = x.1.ownBlock ∨ v'.ownBlock = some W.heap.size) : Rws W' base (rs.set i (v', l')) := by
  have hil : i < rs.length := (List.getElem?_eq_some_iff.1 hx).1
  have far : ∀ (j : Nat) (y : Value × List Nat), j ≠ i → rs[j]? = some y → ∀ k, v'.ownBlock = some k → y.1.ownBlock ≠ some k := fun j y hji hy k hk => by
    rcases hv with e | e
    · exact h.ap i j x y (Ne.symm hji) hx hy k (e.symm.trans hk)
    · intro hky
      have h1 := (World.ownsRow.lt (h.o j y hy) k hky).2
      rw [e] at hk
      injection hk with hk
      omega
  refine ⟨fun j y hy => ?_, fun j1 j2 y1 y2 hne h1 h2 k hk => ?_⟩
  · by_cases e : j = i
    · subst e
      rw [List.getElem?_set_self hil] at hy
      injection hy with hy
      subst hy
      exact ho
    · rw [List.getElem?_set_ne (Ne.symm e)] at hy
      refine World.ownsRow.kept (h.o j y hy) hg ?_
      cases hyb : y.1.ownBlock with
      | none => exact .inl rfl
      | some k => exact .inr fun e2 => h.ap i j x y (Ne.symm e) hx hy k (e2.symm) hyb
  · by_cases e1 : j1 = i
    · subst e1
      rw [List.getElem?_set_self hil] at h1
      rw [List.getElem?_set_ne hne] at h2
      injection h1 with h1
      subst h1
      exact far j2 y2 (Ne.symm hne) h2 k hk
    · rw [List.getElem?_set_ne (Ne.symm e1)] at h1
      by_cases e2 : j2 = i
      · subst e2
        rw [List.getElem?_set_self hil] at h2
        injection h2 with h2
        subst h2
        intro hk2
        exact far j1 y1 e1 h1 k hk2 hk
      · rw [List.getElem?_set_ne (Ne.symm e2)] at h2
        exact h.ap j1 j2 y1 y2 hne h1 h2 k hk
/-- one of them let go -/
theorem Rws.nil_ {W : World} {base : Nat} {rs : List (Value × List Nat)} (h : Rws W base rs) (i : Nat) : Rws W base (rs.set i (.slice none 0 0, [])) := by
  refine ⟨fun j y hy => ?_, fun j1 j2 y1 y2 hne h1 h2 k hk => ?_⟩
  · by_cases e : i = j
    · subst e
      have hil : i < rs.length := by have := (List.getElem?_eq_some_iff.1 hy).1; rwa [List.length_set] at this
      rw [List.getElem?_set_self hil] at hy
      injection hy with hy
      subst hy
      exact own1_nil _ _ _ _
    · rw [List.getElem?_set_ne e] at hy
      exact h.o j y hy
  · by_cases e1 : i = j1
    · subst e1
      have hil : i < rs.length := by have := (List.getElem?_eq_some_iff.1 h1).1; rwa [List.length_set] at this
      rw [List.getElem?_set_self hil] at h1
      injection h1 with h1
      subst h1
      cases hk
    · rw [List.getElem?_set_ne e1] at h1
      by_cases e2 : i = j2
      · subst e2
        have hil : i < rs.length := by have := (List.getElem?_eq_some_iff.1 h2).1; rwa [List.length_set] at this
        rw [List.getElem?_set_self hil] at h2
        injection h2 with h2
        subst h2
        intro hk2
        cases hk2
      · rw [List.getElem?_set_ne e2] at h2
        exact h.ap j1 j2 y1 y2 hne h1 h2 k hk
/-- a block below is stored into -/
theorem Rws.set_ {W : World} {base : Nat} {rs : List (Value × List Nat)} (h : Rws W base rs) {b : Nat} (hb : b < base) (o : Nat) (u : Value) : Rws (W.setCell ⟨b, o, none⟩ u) base rs :=
  ⟨fun i x hx => owns_set (h.o i x hx) hb o u, h.ap⟩
theorem own1_lit (W : World) (base : Nat) (hb : base ≤ W.heap.size) (x : Nat) : Own1 3 natV (W.alloc (.cells #[natV x] 3)) base (.slice (some ⟨W.heap.size, 0, none⟩) 1 1) [x] :=
  ⟨rfl, .inr ⟨W.heap.size, 1, #[natV x], rfl, hb, heap_alloc_new W _, Nat.le_refl _, by decide, rfl, rfl⟩⟩
theorem Rws.lit {W : World} {base : Nat} {rs : List (Value × List Nat)} (h : Rws W base rs) (i : Nat) {x : Value × List Nat} (hx : rs[i]? = some x) (hb : base ≤ W.heap.size) (n : Nat) : Rws (W.alloc (.cells #[natV n] 3)) base (rs.set i (.slice (some ⟨W.heap.size, 0, none⟩) 1 1, [n])) :=
  h.turn i hx (own1_lit W base hb n) (World.grownBy_alloc _ _ _) (.inr rfl)
theorem Own1.cell0 {W : World} {base b : Nat} {x c : Nat} (h : Own1 3 natV W base (.slice (some ⟨b, 0, none⟩) 1 c) [x]) : W.cell? ⟨b, 0, none⟩ = some (natV x) := by
  obtain ⟨A, c, e, hs, _⟩ := h.form
  injection e with e1 e2 e3
  subst e1
  exact hs.cell (j := 0) rfl
/-- append of one place -/
theorem wp_append_int {o : Oper} {a : Act} {w : World} {K : Act → World → Prop} {Q : Exit → Act → World → Prop} (d : Option Tmp) (hd : o.dst = d) (s x : Operand) (ho : o.op = .call { callee := .builtin .append, args := #[s, x], argTypes := #[71, 71] })
    (base : Nat) (v : Value) (l : List Nat) (hs : a.eval s = v) (hown : Own1 3 natV w base v l) (n b : Nat) (hx : a.eval x = .slice (some ⟨b, 0, none⟩) 1 1)
    (hc : w.cell? ⟨b, 0, none⟩ = some (natV n)) (hl : l.length ≤ 1000000000) (hlo : base ≤ w.heap.size)
    (h : ∀ v' w', Own1 3 natV w' base v' (l ++ [n]) → w.grownBy w' v.ownBlock → (v'.ownBlock = v.ownBlock ∨ v'.ownBlock = some w.heap.size) → K (a.put d v') w') : o.wp Try.prog a w K Q := by
  subst hd
  obtain ⟨i0, hi, hz0, hz1, hz2⟩ := info_parts infoInt
  have hmx : 2000000000 ≤ maxLen := by decide
  obtain ⟨v', w', hr, h2, h3, _, h5⟩ := run_append_own_at (P := Try.prog) w base 71 o.type 3 i0 (.int .i64 0) 1 8 Try.underlying71 hi hz0 hz1 hz2 rfl (by decide) v l.length (l.map natV) hown ⟨b, 0, none⟩ 1 1 ([n].map natV) rfl (fun j u hu => by
      have hj : j = 0 := by have := (List.getElem?_eq_some_iff.1 hu).1; simp at this; exact this
      subst hj
      rw [addI]
      have : natV n = u := by simpa using hu
      rw [← this]; exact hc) (fun u hu => by obtain ⟨x, _, rfl⟩ := List.mem_map.1 hu; rfl) (by omega) (by omega) hlo
  unfold Oper.wp execOp
  simp only [ho, resolve, invoke, builtin, Sem.run_bind, Sem.run_pure, Result.andThen_ok, List.map_toArray, List.map_cons, List.map_nil, hs, hx, hr]
  exact h v' w' (own1_of h2) h3 h5
end Go.Proofs.Ytofmfainhflmmaa
