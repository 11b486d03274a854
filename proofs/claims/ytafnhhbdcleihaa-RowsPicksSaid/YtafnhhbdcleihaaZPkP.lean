/-
  WORDS for the law RowsPicks.
-/
import Derived.Test.YtafnhhbdcleihaaZSelect
import Derived.Test.YtafnhhbdcleihaaZToldK
namespace Go.Proofs.Ytafnhhbdcleihaa
open Go.RowKit

theorem mayRel_tx {cols : List ByteArray} {R R' : List Rw} (h : txR R' = txR R) : mayRel cols R' = mayRel cols R := by
  unfold mayRel
  rw [longB_tx h, h, show R'.length = R.length from by rw [← txR_len, h, txR_len]]
theorem projC_tx {cols0 cols : List ByteArray} {R R' : List Rw} (h : txR R' = txR R) : projC cols0 R' cols = projC cols0 R cols := by unfold projC; rw [mayRel_tx h]
theorem projT_tx {cols0 cols : List ByteArray} {R R' : List Rw} (h : txR R' = txR R) : projT cols0 R' cols = projT cols0 R cols := by unfold projT; rw [h]
theorem renC_tx {cols0 cols : List ByteArray} {R R' : List Rw} (h : txR R' = txR R) : renC cols0 R' cols = renC cols0 R cols := by unfold renC; rw [mayRel_tx h]
theorem selC_tx {cols0 : List ByteArray} {R R' : List Rw} (h : txR R' = txR R) : selC cols0 R' = selC cols0 R := by unfold selC; rw [mayRel_tx h]
theorem hasRel_tx {cols0 : List ByteArray} {R R' : List Rw} {x : List Vl} (h : txR R' = txR R) : hasRel cols0 R' x = hasRel cols0 R x := by unfold hasRel; rw [mayRel_tx h, h]
/-- those that are wanted -/
def selW {α : Type} : Nat → List α → List α
  | _, [] => []
  | n, x :: l => if wantB n then x :: selW (n + 1) l else selW (n + 1) l
theorem selW_snoc {α : Type} : ∀ (n : Nat) (l : List α) (x : α), selW n (l ++ [x]) = selW n l ++ (if wantB (n + l.length) then [x] else [])
  | n, [], x => by
    show selW n [x] = [] ++ _
    rw [List.nil_append]
    show (if wantB n then x :: selW (n + 1) [] else selW (n + 1) []) = if wantB (n + 0) then [x] else []
    rfl
  | n, y :: l, x => by
    have ih := selW_snoc (n + 1) l x
    have e : n + 1 + l.length = n + (y :: l).length := by rw [List.length_cons]; omega
    rw [e] at ih
    show (if wantB n then y :: selW (n + 1) (l ++ [x]) else selW (n + 1) (l ++ [x])) = (if wantB n then y :: selW (n + 1) l else selW (n + 1) l) ++ _
    rw [ih]
    split <;> rfl
theorem selW_sub {α : Type} : ∀ (n : Nat) (l : List α), (selW n l).Sublist l
  | _, [] => List.Sublist.refl _
  | n, x :: l => by
    have ih := selW_sub (n + 1) l
    show (if wantB n then x :: selW (n + 1) l else selW (n + 1) l).Sublist _
    split
    · exact ih.cons_cons x
    · exact ih.cons x
theorem selW_tx : ∀ (n : Nat) (R : List Rw), txR (selW n R) = selF n (txR R)
  | _, [] => rfl
  | n, x :: l => by
    have ih := selW_tx (n + 1) l
    show txR (if wantB n then x :: selW (n + 1) l else selW (n + 1) l) = if wantB n then x.l :: selF (n + 1) (txR l) else selF (n + 1) (txR l)
    rw [← ih]
    split <;> rfl
/-- of a relation that may be, what is wanted of its rows: what Of says of them -/
theorem sel_of {cols : List ByteArray} {R : List Rw} (h : mayRel cols R = true) : ofC cols (selW 0 R) = 0 ∧ putsG ordR (txR (selW 0 R)) = selF 0 (txR R) := by
  have hu : Ups ordR (txR (selW 0 R)) := by
    have h1 := mayRel_ups h
    have h2 : (txR (selW 0 R)).Sublist (txR R) := (selW_sub 0 R).map _
    exact List.Pairwise.sublist h2 h1
  have hp : putsG ordR (txR (selW 0 R)) = txR (selW 0 R) := putsG_self hu
  refine ⟨?_, by rw [hp, selW_tx]⟩
  have hl := (selW_sub 0 R).length_le
  have hl2 := mayRel_len h
  unfold ofC
  rw [hp, txR_len, if_pos ⟨mayRel_cols h, longB_yes fun i r _ hr => longB_all (mayRel_long h) r ((selW_sub 0 R).subset (List.mem_of_getElem? hr))⟩, if_pos (by omega)]
/-- a relation's box that may be written -/
def SlotOk (W : World) (b : Nat) : Prop := ∃ a0 n0 k0 a1 n1 k1, W.cell? ⟨b, 0, none⟩ = some (.slice a0 n0 k0) ∧ W.cell? ⟨b, 1, none⟩ = some (.slice a1 n1 k1) ∧ W.frozen? ⟨b, 0, none⟩ = false ∧ W.frozen? ⟨b, 1, none⟩ = false ∧ b < W.heap.size ∧ ∀ o, 2 ≤ o → W.cell? ⟨b, o, none⟩ = none
theorem SlotOk.lt {W : World} {b : Nat} (h : SlotOk W b) : b < W.heap.size := by obtain ⟨_, _, _, _, _, _, _, _, _, _, hl, _⟩ := h; exact hl
theorem SlotOk.keep {W W' : World} {b : Nat} (h : SlotOk W b) (hk : W'.heap[b]? = W.heap[b]?) (hs : W.heap.size ≤ W'.heap.size) : SlotOk W' b := by
  obtain ⟨a0, n0, k0, a1, n1, k1, h0, h1, f0, f1, hl, hn⟩ := h
  have ec : ∀ o, W'.cell? ⟨b, o, none⟩ = W.cell? ⟨b, o, none⟩ := fun o => World.cell?_of_block hk
  have ef : ∀ o, W'.frozen? ⟨b, o, none⟩ = W.frozen? ⟨b, o, none⟩ := fun o => by unfold World.frozen?; rw [hk]
  exact ⟨a0, n0, k0, a1, n1, k1, (ec 0).trans h0, (ec 1).trans h1, (ef 0).trans f0, (ef 1).trans f1, Nat.lt_of_lt_of_le hl hs, fun o ho => (ec o).trans (hn o ho)⟩
theorem SlotOk.next {W W' : World} {b B : Nat} (h : SlotOk W b) (hb : Below B W W') (hB : b < B) : SlotOk W' b := h.keep (hb.block b hB) hb.size
theorem SlotOk.new (W : World) (a0 a1 : Option Addr) (n0 k0 n1 k1 : Nat) (t : TypeId) : SlotOk (W.alloc (.cells #[.slice a0 n0 k0, .slice a1 n1 k1] t)) W.heap.size :=
  ⟨a0, n0, k0, a1, n1, k1, by rw [World.cell?_alloc_new]; rfl, by rw [World.cell?_alloc_new]; rfl, by simp, by simp, by simp, fun o ho => by rw [World.cell?_alloc_new]; simp; omega⟩
theorem SlotOk.other {W : World} {b d o : Nat} {u : Value} (h : SlotOk W b) (hne : b ≠ d) : SlotOk (W.setCell ⟨d, o, none⟩ u) b := h.keep (heap_set W ⟨d, o, none⟩ u b hne) (by simp)
/-- a relation stored in a box -/
theorem slot_two {W : World} {b : Nat} (h : SlotOk W b) (v0 v1 : Value) : ((W.setCell ⟨b, 0, none⟩ v0).setCell ⟨b, 1, none⟩ v1).cell? ⟨b, 0, none⟩ = some v0 ∧ ((W.setCell ⟨b, 0, none⟩ v0).setCell ⟨b, 1, none⟩ v1).cell? ⟨b, 1, none⟩ = some v1 := by
  obtain ⟨_, _, _, _, _, _, h0, h1, _⟩ := h
  exact cells_two h0 h1
theorem SlotOk.put {W : World} {b : Nat} (h : SlotOk W b) (a0 a1 : Option Addr) (n0 k0 n1 k1 : Nat) : SlotOk ((W.setCell ⟨b, 0, none⟩ (.slice a0 n0 k0)).setCell ⟨b, 1, none⟩ (.slice a1 n1 k1)) b := by
  have h2 := slot_two h (.slice a0 n0 k0) (.slice a1 n1 k1)
  obtain ⟨_, _, _, _, _, _, h0, h1, f0, f1, hl, hn⟩ := h
  refine ⟨a0, n0, k0, a1, n1, k1, h2.1, h2.2, by simpa using f0, by simpa using f1, by simpa using hl, fun o ho => ?_⟩
  rw [World.cell?_setCell_other _ _ _ _ (by intro e; injection e with _ e; omega), World.cell?_setCell_other _ _ _ _ (by intro e; injection e with _ e; omega)]
  exact hn o ho
theorem SlotOk.rwN {W : World} {g : Nat} {r : Rw} (h : SlotOk W g) (hr : RwOk W W.heap.size r) : RwN W g r := by
  refine ⟨hr, fun hne b o e e2 => ?_⟩
  subst e2
  obtain ⟨a0, n0, k0, a1, n1, k1, h0, h1, _, _, _, hn⟩ := h
  obtain ⟨b', o', e3, _, hv⟩ := hr.s hne
  rw [e] at e3
  injection e3 with e3
  injection e3 with e4 e5
  subst e4 e5
  have hl : 0 < r.l.length := List.length_pos_iff.2 hne
  have h3 := (hv 0 _ (List.getElem?_eq_getElem hl)).c0
  rw [Nat.zero_mul, Nat.add_zero] at h3
  rcases (by omega : o = 0 ∨ o = 1 ∨ 2 ≤ o) with rfl | rfl | ho
  · rw [h0] at h3; cases h3
  · rw [h1] at h3; cases h3
  · rw [hn o ho] at h3; cases h3
/-- what the document answers, stored in a box that was there -/
theorem ref_put {W : World} {lo g : Nat} {A : Option Addr} {c : Nat} {cols : List ByteArray} {T : List (List Vl)} {code : Int} {vc vr : Value} (h : (code = 0 ∧ vc = .slice A cols.length c ∧ ∃ R', RdR W lo vr R' ∧ txR R' = T) ∨ (code ≠ 0 ∧ vc = .slice none 0 0 ∧ vr = .slice none 0 0)) (hs : SlotOk W g) (hg : g < lo) (u0 u1 : Value) :
    (code = 0 ∧ vc = .slice A cols.length c ∧ ∃ R', RdR ((W.setCell ⟨g, 0, none⟩ u0).setCell ⟨g, 1, none⟩ u1) lo vr R' ∧ txR R' = T) ∨ (code ≠ 0 ∧ vc = .slice none 0 0 ∧ vr = .slice none 0 0) := by
  rcases h with ⟨h1, h2, R', h3, h4⟩ | h
  · have hk : ∀ r ∈ R', RwN W g r := fun r hr => by
      obtain ⟨_, _, _, hsl, _⟩ := h3
      exact hs.rwN (hsl.r r hr)
    exact .inl ⟨h1, h2, R', h3.keep hg hk ((kp_set _ _ _).trans (kp_set _ _ _)), h4⟩
  · exact .inr h
end Go.Proofs.Ytafnhhbdcleihaa
