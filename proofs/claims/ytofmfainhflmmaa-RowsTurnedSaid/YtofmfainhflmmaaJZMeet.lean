import Derived.Deep.RegionHeld3
import Derived.Test.YtofmfainhflmmaaJZCmp
import Derived.Test.YtofmfainhflmmaaJZRws
import Derived.Test.YtofmfainhflmmaaJZSortM
import Derived.Test.YtofmfainhflmmaaJZClone
import Derived.Test.YtofmfainhflmmaaJZJoinU
import Derived.Test.YtofmfainhflmmaaJZTold
import Derived.Test.YtofmfainhflmmaaJZAt
/-
  A DRAWN REGION THAT STORES INTO WHAT IT READS: what holds in every world (U), and what holds till the first store comes up (T). An operation that the store waits for may be taken first where U and T fix its value; another one where U alone does.
-/
namespace Go.Proofs.Ytofmfainhflmmaa
open Go.RowKit

section
variable {P : Program} {ops : Array Oper} {Q : Exit → Act → World → Prop} {md : Region.Mode} {U T : World → Prop} {f : Nat}

/-- what holds, with these listed -/
def StU (U T : World → Prop) (f : Nat) (L : Array Bool) (w : World) : Prop := U w ∧ (L.getD f true = false → T w)
def wpAnyG (P : Program) (md : Region.Mode) (ops : Array Oper) (Q : Exit → Act → World → Prop) (U T : World → Prop) (f : Nat) : Nat → Array Bool → Act → World → Prop
  | 0, listed, a, w => Region.ready md ops listed = [] ∧ Q .normal a w
  | fuel + 1, listed, a, w =>
    (Region.ready md ops listed = [] → Q .normal a w) ∧
    ∀ i ∈ Region.ready md ops listed, wpOp P ops Q i (fun a' w' => StU U T f (listed.setIfInBounds i true) w' ∧ wpAnyG P md ops Q U T f fuel (listed.setIfInBounds i true) a' w') a w
theorem wpAny_of_G : ∀ (fuel : Nat) (listed : Array Bool) (a : Act) (w : World), wpAnyG P md ops Q U T f fuel listed a w → wpAny P md ops Q fuel listed a w
  | 0, _, _, _, h => h
  | fuel + 1, _, _, _, h => ⟨h.1, fun i hi => wpOp_mono (fun a' w' h' => wpAny_of_G fuel _ a' w' h'.2) (h.2 i hi)⟩
theorem stU_set {L : Array Bool} {i : Nat} {w : World} (hif : i ≠ f) : StU U T f (L.setIfInBounds i true) w ↔ StU U T f L w := by
  unfold StU
  rw [getD_set_ne true hif]
theorem wpAnyG_first {i : Nat} {oi : Oper} {v : Value} (V : World → Prop) (R : Array Bool → Prop) (hi : ops[i]? = some oi) (hsel : ∀ (j : Nat) (o : Oper) cs b, ops[j]? = some o → o.op ≠ .select cs b)
    (hQ : ∀ c a w, Q (.panic c) (a.put oi.dst v) w → Q (.panic c) a w) (hif : i ≠ f)
    (hRV : ∀ L w, R L → StU U T f L w → V w) (hRs : ∀ L j, R L → i ∈ Region.ready md ops L → j ∈ Region.ready md ops L → j ≠ i → R (L.setIfInBounds j true)) :
    ∀ (fuel : Nat) (listed : Array Bool) (a : Act) (w : World), R listed →
      (∀ j oj, ops[j]? = some oj → j ≠ i → listed.getD j true = false → (∀ e ∈ oj.after, Region.binds md e = true → e.on ≠ i) → oi.apart ops oj = true) →
      i ∈ Region.ready md ops listed → YieldsIf P ops V oi v a → StU U T f listed w →
      wpAnyG P md ops Q U T f fuel (listed.setIfInBounds i true) (a.put oi.dst v) w → wpAnyG P md ops Q U T f (fuel + 1) listed a w := by
  intro fuel
  induction fuel with
  | zero =>
    intro listed a w hRL _ hr hy hS H
    refine ⟨fun h => (by rw [h] at hr; cases hr), fun j hj => ?_⟩
    by_cases hji : j = i
    · subst hji; exact hy.wpOp hi (hRV _ _ hRL hS) ⟨(stU_set hif).2 hS, H⟩
    · have := ready_mono hj hji
      rw [H.1] at this
      cases this
  | succ fuel ih =>
    intro listed a w hRL hfree hr hy hS H
    refine ⟨fun h => (by rw [h] at hr; cases hr), fun j hj => ?_⟩
    by_cases hji : j = i
    · subst hji; exact hy.wpOp hi (hRV _ _ hRL hS) ⟨(stU_set hif).2 hS, H⟩
    · have h1 := H.2 j (ready_mono hj hji)
      obtain ⟨hjun, oj, hoj, hall⟩ := mem_ready.1 hj
      have hnot : ∀ e ∈ oj.after, Region.binds md e = true → e.on ≠ i := fun e he hb heq => by
        have h1 := hall e he hb
        have h0 := (mem_ready.1 hr).1
        rw [heq] at h1
        rcases Nat.lt_or_ge i listed.size with h' | h'
        · simp [h'] at h0 h1; rw [h0] at h1; cases h1
        · simp [Array.getElem?_eq_none h'] at h1
      have h2 := wpOp_putIf hoj (hfree j oj hoj hji hjun hnot) (fun cs b => hsel i oi cs b hi) (fun cs b => hsel j oj cs b hoj) hQ hy h1
      have hfree' : ∀ k ok, ops[k]? = some ok → k ≠ i → (listed.setIfInBounds j true).getD k true = false →
          (∀ e ∈ ok.after, Region.binds md e = true → e.on ≠ i) → oi.apart ops ok = true := fun k ok hk hki hun hno => by
        refine hfree k ok hk hki ?_ hno
        by_cases hjk : j = k
        · subst hjk; exact hjun
        · rw [getD_set_ne true hjk] at hun; exact hun
      refine wpOp_mono (fun a' w' h3 => ?_) h2
      have hS' : StU U T f (listed.setIfInBounds j true) w' := (stU_set hif).1 (by rw [Array.setIfInBounds_comm _ _ hji]; exact h3.2.1)
      refine ⟨hS', ih (listed.setIfInBounds j true) a' w' (hRs _ _ hRL hr hj hji) hfree' (ready_mono hr (Ne.symm hji)) h3.1 hS' ?_⟩
      rw [Array.setIfInBounds_comm _ _ hji]
      exact h3.2.2
theorem stU_of {L : Array Bool} {w : World} (h : U w ∧ T w) : StU U T f L w := ⟨h.1, fun _ => h.2⟩
theorem stU_late {L : Array Bool} {w : World} (h : U w) (hl : L.getD f true = true) : StU U T f L w := ⟨h, fun h2 => (by rw [hl] at h2; cases h2)⟩
/-- two operations may come up, the one or the other first -/
theorem callG2 {fuel : Nat} {listed : Array Bool} {a : Act} {w : World} (i j : Nat) {oi oj : Oper} (hi : ops[i]? = some oi) (hj : ops[j]? = some oj) (hr : Region.ready md ops listed = [i, j]) (hwi : Region.wanted oi (yielded ops a.tmps) = true) (hwj : Region.wanted oj (yielded ops a.tmps) = true)
    (h1 : ∀ K' : Act → World → Prop, Shut (∀ a w, StU U T f (listed.setIfInBounds i true) w → wpAnyG P md ops Q U T f fuel (listed.setIfInBounds i true) a w → K' a w) → Oper.wp P oi a w K' Q)
    (h2 : ∀ K' : Act → World → Prop, Shut (∀ a w, StU U T f (listed.setIfInBounds j true) w → wpAnyG P md ops Q U T f fuel (listed.setIfInBounds j true) a w → K' a w) → Oper.wp P oj a w K' Q) : wpAnyG P md ops Q U T f (fuel + 1) listed a w := by
  refine ⟨fun h0 => (by rw [hr] at h0; cases h0), fun k hk => ?_⟩
  rw [hr] at hk
  have hk' : k = i ∨ k = j := by simpa using hk
  rcases hk' with rfl | rfl
  · unfold wpOp
    simp only [hi, hwi, if_true]
    exact .inl (h1 _ (fun a' w' h1 h2 => ⟨h1, h2⟩))
  · unfold wpOp
    simp only [hj, hwj, if_true]
    exact .inl (h2 _ (fun a' w' h1 h2 => ⟨h1, h2⟩))
/-- taken first: U alone fixes its value -/
theorem takeU {fuel : Nat} {listed : Array Bool} {a : Act} {w : World} (i : Nat) (d : Option Tmp) (v : Value) {oi : Oper} (hi : ops[i]? = some oi) (hd : oi.dst = d)
    (hs : Region.noSelect ops = true) (hf : Region.free md ops listed i = true) (hr : (Region.ready md ops listed).contains i = true) (hif : (i == f) = false)
    (hQ : ∀ c a w, Q (.panic c) (a.put d v) w → Q (.panic c) a w) (hw : Region.wanted oi (yielded ops a.tmps) = true) (hy : ∀ w, U w → (execOp a.eval oi).run P w = .ok (.value v) w) (hS : StU U T f listed w)
    (h : wpAnyG P md ops Q U T f fuel (listed.setIfInBounds i true) (a.put d v) w) : wpAnyG P md ops Q U T f (fuel + 1) listed a w := by
  subst hd
  exact wpAnyG_first U (fun _ => True) hi (Region.noSelect_spec hs) hQ (by simpa using hif) (fun _ _ _ h => h.1) (fun _ _ _ _ _ _ => trivial) fuel listed a w trivial (Region.free_spec hi hf) (by simpa using hr) (Or.inl ⟨hw, hy⟩) hS h
/-- taken first: the store waits for it -/
theorem takeT {fuel : Nat} {listed : Array Bool} {a : Act} {w : World} (i : Nat) (d : Option Tmp) (v : Value) {oi of : Oper} (hi : ops[i]? = some oi) (hd : oi.dst = d)
    (hs : Region.noSelect ops = true) (hf : Region.free md ops listed i = true) (hr : (Region.ready md ops listed).contains i = true) (hif : (i == f) = false)
    (hof : ops[f]? = some of) (hwt : (of.after.any fun e => Region.binds md e && e.on == i) = true) (hlf : listed.getD f true = false)
    (hQ : ∀ c a w, Q (.panic c) (a.put d v) w → Q (.panic c) a w) (hw : Region.wanted oi (yielded ops a.tmps) = true) (hy : ∀ w, U w ∧ T w → (execOp a.eval oi).run P w = .ok (.value v) w) (hS : StU U T f listed w)
    (h : wpAnyG P md ops Q U T f fuel (listed.setIfInBounds i true) (a.put d v) w) : wpAnyG P md ops Q U T f (fuel + 1) listed a w := by
  subst hd
  refine wpAnyG_first (fun w => U w ∧ T w) (fun L => L.getD f true = false) hi (Region.noSelect_spec hs) hQ (by simpa using hif) (fun _ _ hR h => ⟨h.1, h.2 hR⟩) (fun L j hR hri hrj hji => ?_) fuel listed a w hlf (Region.free_spec hi hf) (by simpa using hr) (Or.inl ⟨hw, hy⟩) hS h
  have hjf : j ≠ f := fun e => by
    subst e
    obtain ⟨_, oj, hoj, hall⟩ := mem_ready.1 hrj
    rw [hof] at hoj
    injection hoj with hoj
    subst hoj
    obtain ⟨e, he, h2⟩ := Array.any_eq_true'.1 hwt
    rw [Bool.and_eq_true, beq_iff_eq] at h2
    have h1 := hall e he h2.1
    rw [h2.2] at h1
    have h0 := (mem_ready.1 hri).1
    rcases Nat.lt_or_ge i L.size with h' | h'
    · simp [h'] at h0 h1; rw [h0] at h1; cases h1
    · simp [Array.getElem?_eq_none h'] at h1
  rw [getD_set_ne true hjf]
  exact hR
/-- one operation alone may come up -/
theorem callG {fuel : Nat} {listed : Array Bool} {a : Act} {w : World} (i : Nat) {oi : Oper} (hi : ops[i]? = some oi) (hr : Region.ready md ops listed = [i]) (hw : Region.wanted oi (yielded ops a.tmps) = true)
    (h : ∀ K' : Act → World → Prop, Shut (∀ a w, StU U T f (listed.setIfInBounds i true) w → wpAnyG P md ops Q U T f fuel (listed.setIfInBounds i true) a w → K' a w) → Oper.wp P oi a w K' Q) : wpAnyG P md ops Q U T f (fuel + 1) listed a w := by
  refine ⟨fun h0 => (by rw [hr] at h0; cases h0), fun j hj => ?_⟩
  rw [hr] at hj
  obtain rfl : j = i := by simpa using hj
  unfold wpOp
  simp only [hi, hw, if_true]
  exact .inl (h _ (fun a' w' h1 h2 => ⟨h1, h2⟩))
theorem wpAnyG_done {listed : Array Bool} {a : Act} {w : World} (hr : Region.ready md ops listed = []) (h : Q .normal a w) :
    ∀ fuel, wpAnyG P md ops Q U T f fuel listed a w
  | 0 => ⟨hr, h⟩
  | _ + 1 => ⟨fun _ => h, by rw [hr]; simp⟩
theorem wp_region_G {id : Nat} {a : Act} {w : World} (hm : P.follows .mixedOrders = true)
    (h : wpAnyG P .any ops Q U T f ops.size (Array.replicate ops.size false) a w.drew) : (Code.region id ops true).wp P Q a w :=
  wp_region_any hm (wpAny_of_G _ _ _ _ h)
end
end Go.Proofs.Ytofmfainhflmmaa

/-
  CONTRACT: meet: what a relation has to do with another one.
-/
namespace Go.Proofs.Ytofmfainhflmmaa
open Go.RowKit Go.Shelf

/-- a meeting as it lies -/
structure MeetAt (w : World) (ca cb : List ByteArray) (RB : List Rw) (bm : Nat) (A' A A'' A4 : Option Addr) (c' c c'' cap : Nat) (M : List Rw) (W : World) : Prop where
  b : Below w.heap.size w W
  lo : w.heap.size ≤ bm
  hi : bm + 2 ≤ W.heap.size
  k : W.heap[bm]? = some (.cells #[.slice A' (shA ca cb).length c', .slice A (shN true ca cb).length c, .slice A'' (shN false ca cb).length c'', .slice A4 M.length cap] 86 (0, 0))
  o0 : Own1 3 natV W (bm + 2) (.slice A' (shA ca cb).length c') (shA ca cb)
  o1 : Own1 3 natV W (bm + 2) (.slice A (shN true ca cb).length c) (shN true ca cb)
  o2 : Own1 3 natV W (bm + 2) (.slice A'' (shN false ca cb).length c'') (shN false ca cb)
  o3 : Own1 46 cellR W w.heap.size (.slice A4 M.length cap) M
  g : ∀ a, A4 = some a → a.block < bm
  p : M.Perm RB
  u : M.Pairwise fun y z => ordM (shN true ca cb) y.l z.l ≤ 0
theorem MeetAt.next {w : World} {ca cb : List ByteArray} {RB : List Rw} {bm : Nat} {A' A A'' A4 : Option Addr} {c' c c'' cap : Nat} {M : List Rw} {W W' : World} (h : MeetAt w ca cb RB bm A' A A'' A4 c' c c'' cap M W) (hb : Below W.heap.size W W') : MeetAt w ca cb RB bm A' A A'' A4 c' c c'' cap M W' :=
  ⟨h.b.trans (hb.mono h.b.size), h.lo, Nat.le_trans h.hi hb.size, (hb.block _ (by have := h.hi; omega)).trans h.k, h.o0.next hb, h.o1.next hb, h.o2.next hb, h.o3.next hb, h.g, h.p, h.u⟩
def MeetEnd (w : World) (ca cb : List ByteArray) (RB : List Rw) (e : Ending) (w' : World) : Prop :=
  ∃ bm A' A A'' A4 c' c c'' cap M, e = .returned (.pointer (some ⟨bm, 0, none⟩)) ∧ MeetAt w ca cb RB bm A' A A'' A4 c' c c'' cap M w'
/-- the box of the pointer to it -/
def PBx (bm : Nat) (X : World) : Prop := X.heap[bm + 1]? = some (.cells #[.pointer (some ⟨bm, 0, none⟩)] 81 (0, 0))
theorem PBx.c {bm : Nat} {X : World} (h : PBx bm X) : X.cell? ⟨bm + 1, 0, none⟩ = some (.pointer (some ⟨bm, 0, none⟩)) := by
  unfold PBx at h
  simp [World.cell?, h]
theorem PBx.same {bm : Nat} {X Y : World} (h : PBx bm X) (hb : Y.heap[bm + 1]? = X.heap[bm + 1]?) : PBx bm Y := hb.trans h
/-- its fields -/
def FBx (bm : Nat) (vA vB vR vM : Value) (X : World) : Prop := X.heap[bm]? = some (.cells #[vA, vB, vR, vM] 86 (0, 0))
theorem FBx.c {bm : Nat} {vA vB vR vM : Value} {W : World} (h : FBx bm vA vB vR vM W) : W.cell? ⟨bm, 0, none⟩ = some vA ∧ W.cell? ⟨bm, 1, none⟩ = some vB ∧ W.cell? ⟨bm, 2, none⟩ = some vR := by
  unfold FBx at h
  refine ⟨?_, ?_, ?_⟩ <;> simp [World.cell?, h]
/-- a meeting on its way -/
structure MeSt (lo : World) (bm : Nat) (vA vB vR vM : Value) (rs : List (Value × List Nat)) (W : World) : Prop where
  b : Below bm lo W
  p : PBx bm W
  k : W.heap[bm]? = some (.cells #[vA, vB, vR, vM] 86 (0, 0))
  r : Rws W (bm + 2) rs
theorem MeSt.lt {lo : World} {bm : Nat} {vA vB vR vM : Value} {rs : List (Value × List Nat)} {W : World} (h : MeSt lo bm vA vB vR vM rs W) : bm + 1 < W.heap.size := (Array.getElem?_eq_some_iff.1 h.p).1
theorem MeSt.next {lo : World} {bm : Nat} {vA vB vR vM : Value} {rs : List (Value × List Nat)} {W W' : World} (h : MeSt lo bm vA vB vR vM rs W) (hb : Below W.heap.size W W') : MeSt lo bm vA vB vR vM rs W' := by
  have hl := h.lt
  exact ⟨h.b.trans (hb.mono (by omega)), (hb.block _ hl).trans h.p, (hb.block _ (by omega)).trans h.k, h.r.next hb⟩
theorem MeSt.c {lo : World} {bm : Nat} {vA vB vR vM : Value} {rs : List (Value × List Nat)} {W : World} (h : MeSt lo bm vA vB vR vM rs W) :
    W.cell? ⟨bm, 0, none⟩ = some vA ∧ W.cell? ⟨bm, 1, none⟩ = some vB ∧ W.cell? ⟨bm, 2, none⟩ = some vR ∧ W.cell? ⟨bm, 3, none⟩ = some vM ∧ W.frozen? ⟨bm, 0, none⟩ = false ∧ W.frozen? ⟨bm, 1, none⟩ = false ∧ W.frozen? ⟨bm, 2, none⟩ = false := by
  have := h.k
  refine ⟨?_, ?_, ?_, ?_, ?_, ?_, ?_⟩ <;> simp [World.cell?, World.frozen?, this]
theorem MeSt.lit {lo : World} {bm : Nat} {vA vB vR vM : Value} {rs : List (Value × List Nat)} {W : World} (h : MeSt lo bm vA vB vR vM rs W) (i : Nat) {x : Value × List Nat} (hx : rs[i]? = some x) (n : Nat) :
    MeSt lo bm vA vB vR vM (rs.set i (.slice (some ⟨W.heap.size, 0, none⟩) 1 1, [n])) (W.alloc (.cells #[natV n] 3)) := by
  have hl := h.lt
  have hb : Below W.heap.size W (W.alloc (.cells #[natV n] 3)) := (Below.refl _ _).alloc (Nat.le_refl _) _
  exact ⟨h.b.trans (hb.mono (by omega)), (hb.block _ hl).trans h.p, (hb.block _ (by omega)).trans h.k, h.r.lit i hx (by omega) n⟩
theorem MeSt.app {lo : World} {bm : Nat} {vA vB vR vM : Value} {rs : List (Value × List Nat)} {W W' : World} (h : MeSt lo bm vA vB vR vM rs W) (i : Nat) {x : Value × List Nat} (hx : rs[i]? = some x) {v' : Value} {l' : List Nat} (ho : Own1 3 natV W' (bm + 2) v' l') (hg : W.grownBy W' x.1.ownBlock)
    (hv : v'.ownBlock = x.1.ownBlock ∨ v'.ownBlock = some W.heap.size) : MeSt lo bm vA vB vR vM (rs.set i (v', l')) W' := by
  have hl := h.lt
  have hb : Below (bm + 2) W W' := below_owns (h.r.o i x hx) hg (by omega)
  exact ⟨h.b.trans (hb.mono (by omega)), (hb.block _ (by omega)).trans h.p, (hb.block _ (by omega)).trans h.k, h.r.turn i hx ho hg hv⟩
theorem MeSt.nil_ {lo : World} {bm : Nat} {vA vB vR vM : Value} {rs : List (Value × List Nat)} {W : World} (h : MeSt lo bm vA vB vR vM rs W) (i : Nat) : MeSt lo bm vA vB vR vM (rs.set i (.slice none 0 0, [])) W := ⟨h.b, h.p, h.k, h.r.nil_ i⟩
theorem MeSt.putR {lo : World} {bm : Nat} {vA vB vR vM : Value} {rs : List (Value × List Nat)} {W : World} (h : MeSt lo bm vA vB vR vM rs W) (v : Value) : MeSt lo bm vA vB v vM rs (W.setCell ⟨bm, 2, none⟩ v) :=
  ⟨h.b.setCell (p := ⟨bm, 2, none⟩) (Nat.le_refl _) _, (Below.heap_setCell _ ⟨bm, 2, none⟩ _ _ (Nat.succ_ne_self _)).trans h.p, heap_setCell_at v h.k, h.r.set_ (by omega) _ _⟩
theorem MeSt.putA {lo : World} {bm : Nat} {vA vB vR vM : Value} {rs : List (Value × List Nat)} {W : World} (h : MeSt lo bm vA vB vR vM rs W) (v : Value) : MeSt lo bm v vB vR vM rs (W.setCell ⟨bm, 0, none⟩ v) :=
  ⟨h.b.setCell (p := ⟨bm, 0, none⟩) (Nat.le_refl _) _, (Below.heap_setCell _ ⟨bm, 0, none⟩ _ _ (Nat.succ_ne_self _)).trans h.p, heap_setCell_at v h.k, h.r.set_ (by omega) _ _⟩
theorem MeSt.putB {lo : World} {bm : Nat} {vA vB vR vM : Value} {rs : List (Value × List Nat)} {W : World} (h : MeSt lo bm vA vB vR vM rs W) (v : Value) : MeSt lo bm vA v vR vM rs (W.setCell ⟨bm, 1, none⟩ v) :=
  ⟨h.b.setCell (p := ⟨bm, 1, none⟩) (Nat.le_refl _) _, (Below.heap_setCell _ ⟨bm, 1, none⟩ _ _ (Nat.succ_ne_self _)).trans h.p, heap_setCell_at v h.k, h.r.set_ (by omega) _ _⟩
theorem MeSt.ut {lo : World} {bm : Nat} {vA vB vR vM : Value} {rs : List (Value × List Nat)} {W : World} (h : MeSt lo bm vA vB vR vM rs W) : PBx bm W ∧ FBx bm vA vB vR vM W := ⟨h.p, h.k⟩
theorem meSt_new (w1 : World) (vM : Value) : MeSt w1 w1.heap.size (.slice none 0 0) (.slice none 0 0) (.slice none 0 0) vM [(.slice none 0 0, []), (.slice none 0 0, []), (.slice none 0 0, []), (.slice none 0 0, []), (.slice none 0 0, [])] ((w1.alloc (.cells #[.slice none 0 0, .slice none 0 0, .slice none 0 0, vM] 86)).alloc (.cells #[.pointer (some ⟨w1.heap.size, 0, none⟩)] 81)) := by
  obtain ⟨w2, h2⟩ : ∃ w2, w1.alloc (.cells #[.slice none 0 0, .slice none 0 0, .slice none 0 0, vM] 86) = w2 := ⟨_, rfl⟩
  have s2 : w2.heap.size = w1.heap.size + 1 := by rw [← h2]; simp
  have b2 : Below w1.heap.size w1 w2 := by rw [← h2]; exact (Below.refl _ _).alloc (Nat.le_refl _) _
  have b3 : Below w2.heap.size w2 (w2.alloc (.cells #[.pointer (some ⟨w1.heap.size, 0, none⟩)] 81)) := (Below.refl _ _).alloc (Nat.le_refl _) _
  rw [h2]
  refine ⟨b2.trans (b3.mono (by omega)), ?_, ?_, ⟨fun i x hx => ?_, fun i j x y _ hx _ k hk => ?_⟩⟩
  · show (w2.alloc _).heap[w1.heap.size + 1]? = _
    rw [← s2]; exact heap_alloc_new w2 _
  · rw [b3.block _ (by omega), ← h2]; exact heap_alloc_new w1 _
  · have : x = (.slice none 0 0, []) := by
      have := List.mem_of_getElem? hx
      simpa using this
    rw [this]; exact own1_nil _ _ _ _
  · have : x = (.slice none 0 0, []) := by
      have := List.mem_of_getElem? hx
      simpa using this
    rw [this] at hk; cases hk
theorem own1_kp {α : Type} {t : TypeId} {e : α → Value} {W W' : World} {B g : Nat} {v : Value} {l : List α} (h : Own1 t e W B v l) (hg : g < B) (hk : Kp g W W') : Own1 t e W' B v l := by
  refine ⟨h.1, ?_⟩
  rcases h.2 with h0 | ⟨g1, cap, cur, h1, h2, h3, h4⟩
  · exact .inl h0
  · exact .inr ⟨g1, cap, cur, h1, h2, (hk.b g1 (by omega) (Array.getElem?_eq_some_iff.1 h3).1).trans h3, h4⟩
set_option maxRecDepth 100000 in
set_option maxHeartbeats 40000000 in
theorem meet_any (A : Option Addr) (c : Nat) (ca : List ByteArray) (A1 : Option Addr) (n1 c1 : Nat) (A2 : Option Addr) (c2 : Nat) (cb : List ByteArray) (A3 : Option Addr) (c3 : Nat) (RB : List Rw) (w : World) (hA : SlC w w.heap.size A ca) (hB : SlC w w.heap.size A2 cb) (hRB : SlR w w.heap.size A3 RB)
    (hla : ca.length ≤ 1000000000) (hlb : cb.length ≤ 1000000000) (hrb : RB.length ≤ 1000000000) (hn3 : A3 = none → RB.length = 0 ∧ c3 = 0) (hbl : ∀ r ∈ RB, r.l.length = cb.length) :
    Calls Try.prog 52 #[.agg #[.slice A ca.length c, .slice A1 n1 c1], .agg #[.slice A2 cb.length c2, .slice A3 RB.length c3]] w (MeetEnd w ca cb RB) := by
  have HA := Lib.hid hA
  have HB := Lib.hid hB
  have HRB := Lib.hid hRB
  have HN3 := Lib.hid hn3
  have HBL := Lib.hid hbl
  clear hA hB hRB hn3 hbl
  obtain ⟨w0, hw0⟩ : ∃ w0, (w.alloc (.cells #[.slice A ca.length c, .slice A1 n1 c1] 34)).alloc (.cells #[.slice A2 cb.length c2, .slice A3 RB.length c3] 34) = w0 := ⟨_, rfl⟩
  have hs1 : (w.alloc (.cells #[.slice A ca.length c, .slice A1 n1 c1] 34)).heap.size = w.heap.size + 1 := by simp
  have HB0 : Hid (Below w.heap.size w w0) := by show Below _ _ _; rw [← hw0]; exact ((Below.refl _ _).alloc (Nat.le_refl _) _).alloc (by simp) _
  have ya : w0.cell? ⟨w.heap.size, 0, none⟩ = some (.slice A ca.length c) := by
    rw [← hw0, World.cell?_alloc_lt _ _ _ (by simp), World.cell?_alloc_new]; rfl
  have yb : w0.cell? ⟨w.heap.size + 1, 0, none⟩ = some (.slice A2 cb.length c2) := by
    rw [← hw0, ← hs1, World.cell?_alloc_new]; rfl
  have yc : w0.cell? ⟨w.heap.size + 1, 1, none⟩ = some (.slice A3 RB.length c3) := by
    rw [← hw0, ← hs1, World.cell?_alloc_new]; rfl
  have hlt : w.heap.size + 2 = w0.heap.size := by rw [← hw0]; simp
  have HC0 := Lib.hid (And.intro ya (And.intro yb (And.intro yc hlt)))
  have HCL := Lib.hid (cloneR_any A3 c3 RB w0 w0.heap.size (HRB.out.s.up HB0.out (Nat.le_refl _)) HN3.out (Nat.le_refl _) (by omega))
  clear hlt hs1
  go_enter Try.func52, Try.ntmps52
  go_wp2_with fail
  refine HCL.out.mono ?_
  rintro e w1 ⟨vM, rfl, hoM, hb1⟩
  have HB1 := Lib.hid hb1
  have HOM := Lib.hid hoM
  have za := (hb1.cell (p := ⟨w.heap.size, 0, none⟩) (by have := HC0.out.2.2.2; show w.heap.size < _; omega)).trans ya
  have zb := (hb1.cell (p := ⟨w.heap.size + 1, 0, none⟩) (by have := HC0.out.2.2.2; show w.heap.size + 1 < _; omega)).trans yb
  have hz1 : w.heap.size + 1 < w1.heap.size := by have := HC0.out.2.2.2; have := hb1.size; omega
  have hz0 : w.heap.size < w1.heap.size := by omega
  obtain ⟨A4, cap, rfl, _, _, _, _, hgM⟩ := hoM.form
  have HGM := Lib.hid hgM
  clear ya yb yc hb1 hoM hw0 HCL hgM
  obtain ⟨w2, hw2⟩ : ∃ w2, (w1.alloc (.cells #[.slice none 0 0, .slice none 0 0, .slice none 0 0, .slice A4 RB.length cap] 86)).alloc (.cells #[.pointer (some ⟨w1.heap.size, 0, none⟩)] 81) = w2 := ⟨_, rfl⟩
  have HM0 : Hid (MeSt w1 w1.heap.size (.slice none 0 0) (.slice none 0 0) (.slice none 0 0) (.slice A4 RB.length cap) [(.slice none 0 0, []), (.slice none 0 0, []), (.slice none 0 0, []), (.slice none 0 0, []), (.slice none 0 0, [])] w2) := by show MeSt _ _ _ _ _ _ _ _; rw [← hw2]; exact meSt_new w1 _
  have yb2 := (HM0.out.b.cell (p := ⟨w.heap.size + 1, 0, none⟩) hz1).trans zb
  go_wp2
  go_loopg [17] cb.length (fun g x17 wr => ∃ (j : Nat) (vA vB vR : Value), x17 = .int .i64 j ∧ j + g = cb.length ∧ Hid (MeSt w1 w1.heap.size vA vB vR (.slice A4 RB.length cap) [(vA, shA ca (cb.take j)), (vB, shN true ca (cb.take j)), (vR, shN false ca (cb.take j)), (.slice none 0 0, []), (.slice none 0 0, [])] wr))
  case atStart => exact ⟨0, _, _, _, rfl, by omega, HM0.out⟩
  case round =>
    clear za zb hw2 yb2
    obtain ⟨j, vA, vB, vR, rfl, hj, HM⟩ := hrel
    have HB1R : Hid (Below w1.heap.size w1 wr) := HM.out.b
    have HBW : Hid (Below w.heap.size w wr) := (HB0.out.trans (HB1.out.mono HB0.out.size)).trans (HB1R.out.mono (Nat.le_trans HB0.out.size HB1.out.size))
    have za := (HB1R.out.cell (p := ⟨w.heap.size, 0, none⟩) hz0).trans ((HB1.out.cell (p := ⟨w.heap.size, 0, none⟩) (by have := HC0.out.2.2.2; show w.heap.size < _; omega)).trans HC0.out.1)
    cases gk with
    | zero =>
      have hji : ¬ (j : Int) < (cb.length : Int) := by omega
      have HTA : Hid (cb.take j = cb) := List.take_of_length_le (by omega)
      rw [HTA.out] at HM
      obtain ⟨A5, c5, e5, s5, _⟩ := (HM.out.r.o 0 _ rfl).form
      obtain ⟨A6, c6, e6, s6, _, _, _, g6⟩ := (HM.out.r.o 1 _ rfl).form
      obtain ⟨A7, c7, e7, s7, _⟩ := (HM.out.r.o 2 _ rfl).form
      simp only at e5 e6 e7
      subst e5 e6 e7
      have HOMR := Lib.hid (HOM.out.next HB1R.out)
      have HS6 := Lib.hid s6
      have HG6 := Lib.hid g6
      have pb := HM.out.p.c
      obtain ⟨q0, q1, q2, q3, _, _, _⟩ := HM.out.c
      have HQ1 := Lib.hid (And.intro q1 pb)
      have HSL : Hid ((shN true ca cb).length ≤ 1000000000) := by
        show _ ≤ _
        refine Nat.le_trans (by unfold shN; rw [List.length_map]; exact List.length_filter_le _ _) ?_
        rw [List.length_zipIdx]; omega
      have HSH := Lib.hid (fun i hi => shN_lt (yes := true) (I := ca) (l := cb) i hi)
      obtain ⟨IB, hIB⟩ : ∃ X, shN true ca cb = X := ⟨_, rfl⟩
      have HIB := Lib.hid hIB
      obtain ⟨IA, hIA⟩ : ∃ X, shA ca cb = X := ⟨_, rfl⟩
      have HIA := Lib.hid hIA
      obtain ⟨IR, hIR⟩ : ∃ X, shN false ca cb = X := ⟨_, rfl⟩
      have HIR := Lib.hid hIR
      rw [hIB, hIA, hIR] at HM
      rw [hIB] at HS6 HQ1 HSL HSH q1
      rw [hIA] at q0
      rw [hIR] at q2
      clear s5 s6 s7 g6 hIB hIA hIR
      by_cases h0 : RB.length = 0
      · obtain rfl : RB = [] := List.length_eq_zero_iff.1 h0
        have hcon := AnyF.slices_SortFunc_none { Try.sortRow with } A4 cap (.func (.func 91) #[] #[.pointer (some ⟨w1.heap.size + 1, 0, none⟩)]) wr
        change Calls Try.prog 90 #[.slice A4 0 cap, _] _ _ at hcon
        have HCON := Lib.hid hcon
        clear hcon
        go_wp2_with fail
        refine HCON.out.mono ?_
        rintro e w3 ⟨rfl, rfl⟩
        go_wp2
        go_ret
        refine ⟨w1.heap.size, A5, A6, A7, A4, c5, c6, c7, cap, [], rfl, ⟨HBW.out, Nat.le_trans HB0.out.size HB1.out.size, HM.out.lt, ?_, ?_, ?_, ?_, owns_low HOMR.out HB0.out.size, fun a e => ?_, List.Perm.refl _, List.Pairwise.nil⟩⟩
        · rw [HIA.out, HIB.out, HIR.out]; exact HM.out.k
        · rw [HIA.out]; exact HM.out.r.o 0 _ rfl
        · rw [HIB.out]; exact HM.out.r.o 1 _ rfl
        · rw [HIR.out]; exact HM.out.r.o 2 _ rfl
        · obtain ⟨g, e2, _, h3⟩ := HGM.out a e
          rw [e2]; exact h3
      · obtain ⟨g, e2, hBg, hgw⟩ : ∃ g, A4 = some ⟨g, 0, none⟩ ∧ w0.heap.size ≤ g ∧ g < w1.heap.size := by
          cases hA4 : A4 with
          | none =>
            obtain ⟨_, _, e9, _, _, _, hn, _⟩ := HOM.out.form
            injection e9 with e9
            rw [← e9] at hn
            exact absurd (hn hA4).1 h0
          | some a =>
            obtain ⟨g, e2, h2, h3⟩ := HGM.out a hA4
            exact ⟨g, by rw [e2], h2, h3⟩
        subst e2
        have HGB := Lib.hid (And.intro hBg hgw)
        have hlw := HM.out.lt
        have HSO := Lib.hid (sortM_any w0.heap.size g cap RB (w1.heap.size + 1) w1.heap.size A6 c6 IB wr HOMR.out (by omega) (fun r hr => ⟨(HRB.out.r r hr).up HBW.out (Nat.le_refl _), fun hne b o e => by
            obtain ⟨b', o', e', hlt, _⟩ := (HRB.out.r r hr).s hne
            rw [e] at e'
            injection e' with e'
            injection e' with e'
            have := HB0.out.size
            omega⟩) (by omega) (by omega) ⟨HS6.out, fun hne b o e => by
            obtain ⟨g', e', h1, _⟩ := HG6.out _ e
            injection e' with e'
            omega⟩ ⟨HQ1.out.2, HQ1.out.1⟩ (by omega) (by omega) (fun r hr i hi => by rw [HBL.out r hr]; exact HSH.out i hi) HSL.out)
        clear hlw hBg hgw
        go_wp2_with fail
        refine HSO.out.mono ?_
        rintro e w3 ⟨rfl, ⟨M, hp, hu, _, ho3⟩, hkp⟩
        have hgw := HGB.out.2
        have HKP := Lib.hid hkp
        have HM3 := Lib.hid (And.intro hp (And.intro hu ho3))
        have pb3 := (hkp.cell (a := ⟨w1.heap.size + 1, 0, none⟩) (by show w1.heap.size + 1 ≠ g; omega) pb)
        clear hp hu ho3 hkp q0 q1 q2 q3 pb hgw
        go_wp2
        go_ret
        have hgw := HGB.out.2
        have hml : M.length = RB.length := HM3.out.1.length_eq
        have hkl := HM.out.lt
        refine ⟨w1.heap.size, A5, A6, A7, some ⟨g, 0, none⟩, c5, c6, c7, cap, M, rfl, ⟨HBW.out.trans (HKP.out.below (Nat.le_trans HB0.out.size HGB.out.1) (by omega)), Nat.le_trans HB0.out.size HB1.out.size, Nat.le_trans HM.out.lt HKP.out.size, ?_, ?_, ?_, ?_, owns_low HM3.out.2.2 HB0.out.size, fun a e => ?_, HM3.out.1, ?_⟩⟩
        · rw [HIA.out, HIB.out, HIR.out, hml, HKP.out.b _ (by omega) (by omega)]; exact HM.out.k
        · rw [HIA.out]; exact own1_kp (HM.out.r.o 0 _ rfl) (by omega) HKP.out
        · rw [HIB.out]; exact own1_kp (HM.out.r.o 1 _ rfl) (by omega) HKP.out
        · rw [HIR.out]; exact own1_kp (HM.out.r.o 2 _ rfl) (by omega) HKP.out
        · injection e with e
          rw [← e]; exact hgw
        · rw [HIB.out]; exact HM3.out.2.1
    | succ g =>
      have hji : (j : Int) < (cb.length : Int) := by omega
      have hjn : j < cb.length := by omega
      obtain ⟨b1, o1, rfl, hb1, p1⟩ := (Sl1.up HB.out HBW.out (Nat.le_refl _)).at_ hjn
      have HTK : Hid (cb.take (j + 1) = cb.take j ++ [cb[j]]) := List.take_succ_eq_append_getElem hjn
      obtain ⟨cx, hcx⟩ : ∃ x, cb[j] = x := ⟨_, rfl⟩
      rw [hcx] at p1 HTK
      unfold strV at p1
      have HIX := Lib.hid (index_any A c ca cx wr wr.heap.size (Sl1.up HA.out HBW.out (Nat.le_refl _)) (by omega))
      have HLT : Hid ((cb.take j).length = j) := List.length_take_of_le (by omega)
      cases h2 : hasS cx ca with
      | false =>
        rw [plI_not h2] at HIX
        have HS1 : Hid (shA ca (cb.take (j + 1)) = shA ca (cb.take j) ∧ shN true ca (cb.take (j + 1)) = shN true ca (cb.take j) ∧ shN false ca (cb.take (j + 1)) = shN false ca (cb.take j) ++ [j]) := by
          show _ ∧ _ ∧ _
          rw [HTK.out, shA_no h2, shN_snoc, shN_snoc, h2, HLT.out]
          exact ⟨rfl, rfl, rfl⟩
        clear h2 hcx
        go_wp2_with fail
        refine HIX.out.mono ?_
        rintro e w' ⟨rfl, rfl⟩
        go_wp2_with fail
        obtain ⟨wd, hwd⟩ : ∃ wd, wr.drew = wd := ⟨_, rfl⟩
        have HBD : Hid (Below wr.heap.size wr wd) := by show Below _ _ _; rw [← hwd]; exact (Below.refl _ _).drew
        have HMD := Lib.hid (HM.out.next HBD.out)
        have hUT : PBx w1.heap.size wd ∧ FBx w1.heap.size vA vB vR (.slice A4 RB.length cap) wd := ⟨HMD.out.p, HMD.out.k⟩
        refine wp_region_G (U := PBx w1.heap.size) (T := FBx w1.heap.size vA vB vR (.slice A4 RB.length cap)) (f := 10) (by kernel_rfl) ?_
        rw [hwd]
        clear hwd za p1
        refine takeU 0 (some 28) ((.pointer (some ⟨w1.heap.size, 0, none⟩))) rfl rfl (by kernel_rfl) (by kernel_rfl) (by kernel_rfl) rfl (fun _ _ _ h => h) (by rfl) (by (intro _w hSw; have k0 := PBx.c hSw; clear hSw; go_simp)) (stU_of hUT) ?_
        simp only [Act.put, List.setIfInBounds_toArray, List.set_cons_zero, List.set_cons_succ]
        refine takeU 1 (some 29) ((.pointer (some ⟨w1.heap.size, 0, none⟩))) rfl rfl (by kernel_rfl) (by kernel_rfl) (by kernel_rfl) rfl (fun _ _ _ h => h) (by rfl) (by (intro _w hSw; have k0 := PBx.c hSw; clear hSw; go_simp)) (stU_of hUT) ?_
        simp only [Act.put, List.setIfInBounds_toArray, List.set_cons_zero, List.set_cons_succ]
        refine takeU 2 (some 30) ((.pointer (some ⟨w1.heap.size, 0, none⟩))) rfl rfl (by kernel_rfl) (by kernel_rfl) (by kernel_rfl) rfl (fun _ _ _ h => h) (by rfl) (by (intro _w _hSw; (try dsimp only at _hSw); go_simp)) (stU_of hUT) ?_
        simp only [Act.put, List.setIfInBounds_toArray, List.set_cons_zero, List.set_cons_succ]
        refine takeU 3 (some 31) ((.pointer (some ⟨w1.heap.size, 2, none⟩))) rfl rfl (by kernel_rfl) (by kernel_rfl) (by kernel_rfl) rfl (fun _ _ _ h => h) (by rfl) (by (intro _w _hSw; (try dsimp only at _hSw); go_simp)) (stU_of hUT) ?_
        simp only [Act.put, List.setIfInBounds_toArray, List.set_cons_zero, List.set_cons_succ]
        refine takeT 4 (some 32) ((vR)) rfl rfl (by kernel_rfl) (by kernel_rfl) (by kernel_rfl) rfl rfl (by kernel_rfl) rfl (fun _ _ _ h => h) (by rfl) (by (intro _w hSw; have k0 := (FBx.c hSw.2).2.2; clear hSw; go_simp)) (stU_of hUT) ?_
        simp only [Act.put, List.setIfInBounds_toArray, List.set_cons_zero, List.set_cons_succ]
        refine takeU 5 (some 33) ((.int .i64 j)) rfl rfl (by kernel_rfl) (by kernel_rfl) (by kernel_rfl) rfl (fun _ _ _ h => h) (by rfl) (by (intro _w _hSw; (try dsimp only at _hSw); go_simp)) (stU_of hUT) ?_
        simp only [Act.put, List.setIfInBounds_toArray, List.set_cons_zero, List.set_cons_succ]
        refine callG 6 rfl (by kernel_rfl) (by rfl) (fun K hK => ?_)
        have HM1 := Lib.hid (HMD.out.lit 3 (x := (.slice none 0 0, [])) rfl j)
        go_simp
        refine hK.out _ _ (stU_of HM1.out.ut) ?_
        clear hK K hUT
        have hUT := HM1.out.ut
        have HRL : Hid ((shN false ca (cb.take j)).length ≤ 1000000000) := by
          show _ ≤ _
          refine Nat.le_trans (by unfold shN; rw [List.length_map]; exact List.length_filter_le _ _) ?_
          rw [List.length_zipIdx, HLT.out]
          omega
        refine callG 7 rfl (by kernel_rfl) (by rfl) (fun K hK => ?_)
        refine wp_append_int (some 35) rfl _ _ rfl (w1.heap.size + 2) vR (shN false ca (cb.take j)) rfl (HM1.out.r.o 2 _ rfl) j wd.heap.size rfl (Own1.cell0 (HM1.out.r.o 3 _ rfl)) HRL.out HM1.out.lt ?_
        intro v4 w4 ho4 hg4 hv4
        rw [← HS1.out.2.2] at ho4
        obtain ⟨A5, c5, rfl, _⟩ := ho4.form
        have HM4 := Lib.hid (HM1.out.app 2 (x := (vR, shN false ca (cb.take j))) rfl ho4 hg4 hv4)
        refine hK.out _ _ (stU_of HM4.out.ut) ?_
        clear hK K hUT ho4 hg4 hv4
        simp only [Act.put, List.setIfInBounds_toArray, List.set_cons_zero, List.set_cons_succ]
        have hUT := HM4.out.ut
        refine takeU 8 (some 36) ((.pointer (some ⟨w1.heap.size, 0, none⟩))) rfl rfl (by kernel_rfl) (by kernel_rfl) (by kernel_rfl) rfl (fun _ _ _ h => h) (by rfl) (by (intro _w _hSw; (try dsimp only at _hSw); go_simp)) (stU_of hUT) ?_
        simp only [Act.put, List.setIfInBounds_toArray, List.set_cons_zero, List.set_cons_succ]
        refine takeU 9 (some 37) ((.pointer (some ⟨w1.heap.size, 2, none⟩))) rfl rfl (by kernel_rfl) (by kernel_rfl) (by kernel_rfl) rfl (fun _ _ _ h => h) (by rfl) (by (intro _w _hSw; (try dsimp only at _hSw); go_simp)) (stU_of hUT) ?_
        simp only [Act.put, List.setIfInBounds_toArray, List.set_cons_zero, List.set_cons_succ]
        have HM5 := Lib.hid (((HM4.out.putR (.slice A5 (shN false ca (cb.take (j + 1))).length c5)).nil_ 3).nil_ 4)
        refine callG 10 rfl (by kernel_rfl) (by rfl) (fun K hK => ?_)
        obtain ⟨q0, q1, q2, q3, f0, f1, f2⟩ := HM4.out.c
        go_simp
        refine hK.out _ _ (stU_late HM5.out.p (by kernel_rfl)) ?_
        refine wpAnyG_done (by kernel_rfl) ?_ _
        clear q0 q1 q2 q3 f0 f1 f2 hK K hUT
        go_wp2
        go_roundg g
        case measure => omega
        case rel => exact ⟨j + 1, vA, vB, _, by go_num, by omega, by rw [HS1.out.1, HS1.out.2.1]; exact HM5.out⟩
      | true =>
        obtain ⟨hz, hzlt⟩ := plI_has h2
        rw [hz] at HIX
        have HS1 : Hid (shA ca (cb.take (j + 1)) = shA ca (cb.take j) ++ [plS cx ca] ∧ shN true ca (cb.take (j + 1)) = shN true ca (cb.take j) ++ [j] ∧ shN false ca (cb.take (j + 1)) = shN false ca (cb.take j)) := by
          show _ ∧ _ ∧ _
          rw [HTK.out, shA_yes h2, shN_snoc, shN_snoc, h2, HLT.out]
          exact ⟨rfl, rfl, rfl⟩
        obtain ⟨z, hzz⟩ : ∃ z, plS cx ca = z := ⟨_, rfl⟩
        rw [hzz] at HIX HS1
        have hzn : ¬ ((z : Int) < 0) := by omega
        clear h2 hcx hz hzz
        go_wp2_with fail
        refine HIX.out.mono ?_
        rintro e w' ⟨rfl, rfl⟩
        go_wp2_with fail
        obtain ⟨wd, hwd⟩ : ∃ wd, wr.drew = wd := ⟨_, rfl⟩
        have HBD : Hid (Below wr.heap.size wr wd) := by show Below _ _ _; rw [← hwd]; exact (Below.refl _ _).drew
        have HMD := Lib.hid (HM.out.next HBD.out)
        have hUT : PBx w1.heap.size wd ∧ FBx w1.heap.size vA vB vR (.slice A4 RB.length cap) wd := ⟨HMD.out.p, HMD.out.k⟩
        refine wp_region_G (U := PBx w1.heap.size) (T := FBx w1.heap.size vA vB vR (.slice A4 RB.length cap)) (f := 18) (by kernel_rfl) ?_
        rw [hwd]
        have HRA8 : Hid ((shA ca (cb.take j)).length ≤ 1000000000) := by
          show _ ≤ _
          rw [sh_len]
          refine Nat.le_trans (by unfold shN; rw [List.length_map]; exact List.length_filter_le _ _) ?_
          rw [List.length_zipIdx, HLT.out]
          omega
        have HRB8 : Hid ((shN true ca (cb.take j)).length ≤ 1000000000) := by
          show _ ≤ _
          refine Nat.le_trans (by unfold shN; rw [List.length_map]; exact List.length_filter_le _ _) ?_
          rw [List.length_zipIdx, HLT.out]
          omega
        clear hwd za p1
        refine takeU 0 (some 38) ((.pointer (some ⟨w1.heap.size, 0, none⟩))) rfl rfl (by kernel_rfl) (by kernel_rfl) (by kernel_rfl) rfl (fun _ _ _ h => h) (by rfl) (by (intro _w hSw; have k0 := PBx.c hSw; clear hSw; go_simp)) (stU_of hUT) ?_
        simp only [Act.put, List.setIfInBounds_toArray, List.set_cons_zero, List.set_cons_succ]
        refine takeU 1 (some 39) ((.pointer (some ⟨w1.heap.size, 0, none⟩))) rfl rfl (by kernel_rfl) (by kernel_rfl) (by kernel_rfl) rfl (fun _ _ _ h => h) (by rfl) (by (intro _w hSw; have k0 := PBx.c hSw; clear hSw; go_simp)) (stU_of hUT) ?_
        simp only [Act.put, List.setIfInBounds_toArray, List.set_cons_zero, List.set_cons_succ]
        refine takeU 2 (some 40) ((.pointer (some ⟨w1.heap.size, 0, none⟩))) rfl rfl (by kernel_rfl) (by kernel_rfl) (by kernel_rfl) rfl (fun _ _ _ h => h) (by rfl) (by (intro _w hSw; have k0 := PBx.c hSw; clear hSw; go_simp)) (stU_of hUT) ?_
        simp only [Act.put, List.setIfInBounds_toArray, List.set_cons_zero, List.set_cons_succ]
        refine takeU 3 (some 41) ((.pointer (some ⟨w1.heap.size, 0, none⟩))) rfl rfl (by kernel_rfl) (by kernel_rfl) (by kernel_rfl) rfl (fun _ _ _ h => h) (by rfl) (by (intro _w _hSw; (try dsimp only at _hSw); go_simp)) (stU_of hUT) ?_
        simp only [Act.put, List.setIfInBounds_toArray, List.set_cons_zero, List.set_cons_succ]
        refine takeU 4 (some 42) ((.pointer (some ⟨w1.heap.size, 0, none⟩))) rfl rfl (by kernel_rfl) (by kernel_rfl) (by kernel_rfl) rfl (fun _ _ _ h => h) (by rfl) (by (intro _w _hSw; (try dsimp only at _hSw); go_simp)) (stU_of hUT) ?_
        simp only [Act.put, List.setIfInBounds_toArray, List.set_cons_zero, List.set_cons_succ]
        refine takeT 5 (some 43) ((vA)) rfl rfl (by kernel_rfl) (by kernel_rfl) (by kernel_rfl) rfl rfl (by kernel_rfl) rfl (fun _ _ _ h => h) (by rfl) (by (intro _w hSw; have k0 := (FBx.c hSw.2).1; clear hSw; go_simp)) (stU_of hUT) ?_
        simp only [Act.put, List.setIfInBounds_toArray, List.set_cons_zero, List.set_cons_succ]
        refine takeU 6 (some 44) ((.int .i64 z)) rfl rfl (by kernel_rfl) (by kernel_rfl) (by kernel_rfl) rfl (fun _ _ _ h => h) (by rfl) (by (intro _w _hSw; (try dsimp only at _hSw); go_simp)) (stU_of hUT) ?_
        simp only [Act.put, List.setIfInBounds_toArray, List.set_cons_zero, List.set_cons_succ]
        refine takeU 9 (some 47) ((.pointer (some ⟨w1.heap.size, 0, none⟩))) rfl rfl (by kernel_rfl) (by kernel_rfl) (by kernel_rfl) rfl (fun _ _ _ h => h) (by rfl) (by (intro _w hSw; have k0 := PBx.c hSw; clear hSw; go_simp)) (stU_of hUT) ?_
        simp only [Act.put, List.setIfInBounds_toArray, List.set_cons_zero, List.set_cons_succ]
        refine takeU 10 (some 48) ((.pointer (some ⟨w1.heap.size, 0, none⟩))) rfl rfl (by kernel_rfl) (by kernel_rfl) (by kernel_rfl) rfl (fun _ _ _ h => h) (by rfl) (by (intro _w _hSw; (try dsimp only at _hSw); go_simp)) (stU_of hUT) ?_
        simp only [Act.put, List.setIfInBounds_toArray, List.set_cons_zero, List.set_cons_succ]
        refine takeU 11 (some 49) ((.pointer (some ⟨w1.heap.size, 1, none⟩))) rfl rfl (by kernel_rfl) (by kernel_rfl) (by kernel_rfl) rfl (fun _ _ _ h => h) (by rfl) (by (intro _w _hSw; (try dsimp only at _hSw); go_simp)) (stU_of hUT) ?_
        simp only [Act.put, List.setIfInBounds_toArray, List.set_cons_zero, List.set_cons_succ]
        refine takeT 12 (some 50) ((vB)) rfl rfl (by kernel_rfl) (by kernel_rfl) (by kernel_rfl) rfl rfl (by kernel_rfl) rfl (fun _ _ _ h => h) (by rfl) (by (intro _w hSw; have k0 := (FBx.c hSw.2).2.1; clear hSw; go_simp)) (stU_of hUT) ?_
        simp only [Act.put, List.setIfInBounds_toArray, List.set_cons_zero, List.set_cons_succ]
        refine takeU 13 (some 51) ((.int .i64 j)) rfl rfl (by kernel_rfl) (by kernel_rfl) (by kernel_rfl) rfl (fun _ _ _ h => h) (by rfl) (by (intro _w _hSw; (try dsimp only at _hSw); go_simp)) (stU_of hUT) ?_
        simp only [Act.put, List.setIfInBounds_toArray, List.set_cons_zero, List.set_cons_succ]
        refine callG2 7 14 rfl rfl (by kernel_rfl) (by rfl) (by rfl) (fun K hK => ?_) (fun K hK => ?_)
        · obtain ⟨y1, hy1⟩ : ∃ Y, wd.alloc (.cells #[.int .i64 (z : Int)] 3) = Y := ⟨_, rfl⟩
          have HX1 : Hid (MeSt w1 w1.heap.size vA vB vR (.slice A4 RB.length cap) [(vA, shA ca (cb.take j)), (vB, shN true ca (cb.take j)), (vR, shN false ca (cb.take j)), (.slice (some ⟨wd.heap.size, 0, none⟩) 1 1, [z]), (.slice none 0 0, [])] y1) := by show MeSt _ _ _ _ _ _ _ _; rw [← hy1]; exact HMD.out.lit 3 (x := (.slice none 0 0, [])) rfl z
          go_simp
          try rw [hy1]
          refine hK.out _ _ (stU_of HX1.out.ut) ?_
          clear hK K hUT hy1
          have hUT := HX1.out.ut
          refine callG2 8 14 rfl rfl (by kernel_rfl) (by rfl) (by rfl) (fun K hK => ?_) (fun K hK => ?_)
          · refine wp_append_int (some 46) rfl _ _ rfl (w1.heap.size + 2) vA (shA ca (cb.take j)) rfl (HX1.out.r.o 0 _ rfl) z wd.heap.size rfl (Own1.cell0 (HX1.out.r.o 3 _ rfl)) HRA8.out HX1.out.lt ?_
            intro vX y2 hoX hgX hvX
            rw [← HS1.out.1] at hoX
            obtain ⟨A5, c5, rfl, _⟩ := hoX.form
            have HX2 : Hid (MeSt w1 w1.heap.size vA vB vR (.slice A4 RB.length cap) [(.slice A5 (shA ca (cb.take (j + 1))).length c5, shA ca (cb.take (j + 1))), (vB, shN true ca (cb.take j)), (vR, shN false ca (cb.take j)), (.slice (some ⟨wd.heap.size, 0, none⟩) 1 1, [z]), (.slice none 0 0, [])] y2) := HX1.out.app 0 (x := (vA, shA ca (cb.take j))) rfl hoX hgX hvX
            refine hK.out _ _ (stU_of HX2.out.ut) ?_
            clear hK K hUT hoX hgX hvX
            have hUT := HX2.out.ut
            simp only [Act.put, List.setIfInBounds_toArray, List.set_cons_zero, List.set_cons_succ]
            refine callG 14 rfl (by kernel_rfl) (by rfl) (fun K hK => ?_)
            obtain ⟨y3, hy3⟩ : ∃ Y, y2.alloc (.cells #[.int .i64 (j : Int)] 3) = Y := ⟨_, rfl⟩
            have HX3 : Hid (MeSt w1 w1.heap.size vA vB vR (.slice A4 RB.length cap) [(.slice A5 (shA ca (cb.take (j + 1))).length c5, shA ca (cb.take (j + 1))), (vB, shN true ca (cb.take j)), (vR, shN false ca (cb.take j)), (.slice (some ⟨wd.heap.size, 0, none⟩) 1 1, [z]), (.slice (some ⟨y2.heap.size, 0, none⟩) 1 1, [j])] y3) := by show MeSt _ _ _ _ _ _ _ _; rw [← hy3]; exact HX2.out.lit 4 (x := (.slice none 0 0, [])) rfl j
            go_simp
            try rw [hy3]
            refine hK.out _ _ (stU_of HX3.out.ut) ?_
            clear hK K hUT hy3
            have hUT := HX3.out.ut
            refine callG 15 rfl (by kernel_rfl) (by rfl) (fun K hK => ?_)
            refine wp_append_int (some 53) rfl _ _ rfl (w1.heap.size + 2) vB (shN true ca (cb.take j)) rfl (HX3.out.r.o 1 _ rfl) j y2.heap.size rfl (Own1.cell0 (HX3.out.r.o 4 _ rfl)) HRB8.out HX3.out.lt ?_
            intro vX y4 hoX hgX hvX
            rw [← HS1.out.2.1] at hoX
            obtain ⟨A6, c6, rfl, _⟩ := hoX.form
            have HX4 : Hid (MeSt w1 w1.heap.size vA vB vR (.slice A4 RB.length cap) [(.slice A5 (shA ca (cb.take (j + 1))).length c5, shA ca (cb.take (j + 1))), (.slice A6 (shN true ca (cb.take (j + 1))).length c6, shN true ca (cb.take (j + 1))), (vR, shN false ca (cb.take j)), (.slice (some ⟨wd.heap.size, 0, none⟩) 1 1, [z]), (.slice (some ⟨y2.heap.size, 0, none⟩) 1 1, [j])] y4) := HX3.out.app 1 (x := (vB, shN true ca (cb.take j))) rfl hoX hgX hvX
            refine hK.out _ _ (stU_of HX4.out.ut) ?_
            clear hK K hUT hoX hgX hvX
            have hUT := HX4.out.ut
            simp only [Act.put, List.setIfInBounds_toArray, List.set_cons_zero, List.set_cons_succ]
            refine takeU 16 (some 54) ((.pointer (some ⟨w1.heap.size, 0, none⟩))) rfl rfl (by kernel_rfl) (by kernel_rfl) (by kernel_rfl) rfl (fun _ _ _ h => h) (by rfl) (by (intro _w _hSw; (try dsimp only at _hSw); go_simp)) (stU_of hUT) ?_
            simp only [Act.put, List.setIfInBounds_toArray, List.set_cons_zero, List.set_cons_succ]
            refine takeU 17 (some 55) ((.pointer (some ⟨w1.heap.size, 0, none⟩))) rfl rfl (by kernel_rfl) (by kernel_rfl) (by kernel_rfl) rfl (fun _ _ _ h => h) (by rfl) (by (intro _w _hSw; (try dsimp only at _hSw); go_simp)) (stU_of hUT) ?_
            simp only [Act.put, List.setIfInBounds_toArray, List.set_cons_zero, List.set_cons_succ]
            have HXS := Lib.hid (HX4.out.putA (.slice A5 (shA ca (cb.take (j + 1))).length c5))
            refine callG 18 rfl (by kernel_rfl) (by rfl) (fun K hK => ?_)
            obtain ⟨q0, q1, q2, q3, f0, f1, f2⟩ := HX4.out.c
            go_simp
            refine hK.out _ _ (stU_late HXS.out.p (by kernel_rfl)) ?_
            clear hK K hUT q0 q1 q2 q3 f0 f1 f2
            have hU := HXS.out.p
            refine takeU 19 (some 56) ((.pointer (some ⟨w1.heap.size, 0, none⟩))) rfl rfl (by kernel_rfl) (by kernel_rfl) (by kernel_rfl) rfl (fun _ _ _ h => h) (by rfl) (by (intro _w _hSw; (try dsimp only at _hSw); go_simp)) (stU_late hU (by kernel_rfl)) ?_
            simp only [Act.put, List.setIfInBounds_toArray, List.set_cons_zero, List.set_cons_succ]
            refine takeU 20 (some 57) ((.pointer (some ⟨w1.heap.size, 1, none⟩))) rfl rfl (by kernel_rfl) (by kernel_rfl) (by kernel_rfl) rfl (fun _ _ _ h => h) (by rfl) (by (intro _w _hSw; (try dsimp only at _hSw); go_simp)) (stU_late hU (by kernel_rfl)) ?_
            simp only [Act.put, List.setIfInBounds_toArray, List.set_cons_zero, List.set_cons_succ]
            have HXT := Lib.hid (((HXS.out.putB (.slice A6 (shN true ca (cb.take (j + 1))).length c6)).nil_ 3).nil_ 4)
            refine callG 21 rfl (by kernel_rfl) (by rfl) (fun K hK => ?_)
            obtain ⟨q0, q1, q2, q3, f0, f1, f2⟩ := HXS.out.c
            go_simp
            refine hK.out _ _ (stU_late HXT.out.p (by kernel_rfl)) ?_
            refine wpAnyG_done (by kernel_rfl) ?_ _
            clear hK K hU q0 q1 q2 q3 f0 f1 f2
            go_wp2
            go_roundg g
            case measure => omega
            case rel => exact ⟨j + 1, _, _, vR, by go_num, by omega, by rw [HS1.out.2.2]; exact HXT.out⟩
          · obtain ⟨y2, hy2⟩ : ∃ Y, y1.alloc (.cells #[.int .i64 (j : Int)] 3) = Y := ⟨_, rfl⟩
            have HX2 : Hid (MeSt w1 w1.heap.size vA vB vR (.slice A4 RB.length cap) [(vA, shA ca (cb.take j)), (vB, shN true ca (cb.take j)), (vR, shN false ca (cb.take j)), (.slice (some ⟨wd.heap.size, 0, none⟩) 1 1, [z]), (.slice (some ⟨y1.heap.size, 0, none⟩) 1 1, [j])] y2) := by show MeSt _ _ _ _ _ _ _ _; rw [← hy2]; exact HX1.out.lit 4 (x := (.slice none 0 0, [])) rfl j
            go_simp
            try rw [hy2]
            refine hK.out _ _ (stU_of HX2.out.ut) ?_
            clear hK K hUT hy2
            have hUT := HX2.out.ut
            refine callG 8 rfl (by kernel_rfl) (by rfl) (fun K hK => ?_)
            refine wp_append_int (some 46) rfl _ _ rfl (w1.heap.size + 2) vA (shA ca (cb.take j)) rfl (HX2.out.r.o 0 _ rfl) z wd.heap.size rfl (Own1.cell0 (HX2.out.r.o 3 _ rfl)) HRA8.out HX2.out.lt ?_
            intro vX y3 hoX hgX hvX
            rw [← HS1.out.1] at hoX
            obtain ⟨A5, c5, rfl, _⟩ := hoX.form
            have HX3 : Hid (MeSt w1 w1.heap.size vA vB vR (.slice A4 RB.length cap) [(.slice A5 (shA ca (cb.take (j + 1))).length c5, shA ca (cb.take (j + 1))), (vB, shN true ca (cb.take j)), (vR, shN false ca (cb.take j)), (.slice (some ⟨wd.heap.size, 0, none⟩) 1 1, [z]), (.slice (some ⟨y1.heap.size, 0, none⟩) 1 1, [j])] y3) := HX2.out.app 0 (x := (vA, shA ca (cb.take j))) rfl hoX hgX hvX
            refine hK.out _ _ (stU_of HX3.out.ut) ?_
            clear hK K hUT hoX hgX hvX
            have hUT := HX3.out.ut
            simp only [Act.put, List.setIfInBounds_toArray, List.set_cons_zero, List.set_cons_succ]
            refine callG 15 rfl (by kernel_rfl) (by rfl) (fun K hK => ?_)
            refine wp_append_int (some 53) rfl _ _ rfl (w1.heap.size + 2) vB (shN true ca (cb.take j)) rfl (HX3.out.r.o 1 _ rfl) j y1.heap.size rfl (Own1.cell0 (HX3.out.r.o 4 _ rfl)) HRB8.out HX3.out.lt ?_
            intro vX y4 hoX hgX hvX
            rw [← HS1.out.2.1] at hoX
            obtain ⟨A6, c6, rfl, _⟩ := hoX.form
            have HX4 : Hid (MeSt w1 w1.heap.size vA vB vR (.slice A4 RB.length cap) [(.slice A5 (shA ca (cb.take (j + 1))).length c5, shA ca (cb.take (j + 1))), (.slice A6 (shN true ca (cb.take (j + 1))).length c6, shN true ca (cb.take (j + 1))), (vR, shN false ca (cb.take j)), (.slice (some ⟨wd.heap.size, 0, none⟩) 1 1, [z]), (.slice (some ⟨y1.heap.size, 0, none⟩) 1 1, [j])] y4) := HX3.out.app 1 (x := (vB, shN true ca (cb.take j))) rfl hoX hgX hvX
            refine hK.out _ _ (stU_of HX4.out.ut) ?_
            clear hK K hUT hoX hgX hvX
            have hUT := HX4.out.ut
            simp only [Act.put, List.setIfInBounds_toArray, List.set_cons_zero, List.set_cons_succ]
            refine takeU 16 (some 54) ((.pointer (some ⟨w1.heap.size, 0, none⟩))) rfl rfl (by kernel_rfl) (by kernel_rfl) (by kernel_rfl) rfl (fun _ _ _ h => h) (by rfl) (by (intro _w _hSw; (try dsimp only at _hSw); go_simp)) (stU_of hUT) ?_
            simp only [Act.put, List.setIfInBounds_toArray, List.set_cons_zero, List.set_cons_succ]
            refine takeU 17 (some 55) ((.pointer (some ⟨w1.heap.size, 0, none⟩))) rfl rfl (by kernel_rfl) (by kernel_rfl) (by kernel_rfl) rfl (fun _ _ _ h => h) (by rfl) (by (intro _w _hSw; (try dsimp only at _hSw); go_simp)) (stU_of hUT) ?_
            simp only [Act.put, List.setIfInBounds_toArray, List.set_cons_zero, List.set_cons_succ]
            have HXS := Lib.hid (HX4.out.putA (.slice A5 (shA ca (cb.take (j + 1))).length c5))
            refine callG 18 rfl (by kernel_rfl) (by rfl) (fun K hK => ?_)
            obtain ⟨q0, q1, q2, q3, f0, f1, f2⟩ := HX4.out.c
            go_simp
            refine hK.out _ _ (stU_late HXS.out.p (by kernel_rfl)) ?_
            clear hK K hUT q0 q1 q2 q3 f0 f1 f2
            have hU := HXS.out.p
            refine takeU 19 (some 56) ((.pointer (some ⟨w1.heap.size, 0, none⟩))) rfl rfl (by kernel_rfl) (by kernel_rfl) (by kernel_rfl) rfl (fun _ _ _ h => h) (by rfl) (by (intro _w _hSw; (try dsimp only at _hSw); go_simp)) (stU_late hU (by kernel_rfl)) ?_
            simp only [Act.put, List.setIfInBounds_toArray, List.set_cons_zero, List.set_cons_succ]
            refine takeU 20 (some 57) ((.pointer (some ⟨w1.heap.size, 1, none⟩))) rfl rfl (by kernel_rfl) (by kernel_rfl) (by kernel_rfl) rfl (fun _ _ _ h => h) (by rfl) (by (intro _w _hSw; (try dsimp only at _hSw); go_simp)) (stU_late hU (by kernel_rfl)) ?_
            simp only [Act.put, List.setIfInBounds_toArray, List.set_cons_zero, List.set_cons_succ]
            have HXT := Lib.hid (((HXS.out.putB (.slice A6 (shN true ca (cb.take (j + 1))).length c6)).nil_ 3).nil_ 4)
            refine callG 21 rfl (by kernel_rfl) (by rfl) (fun K hK => ?_)
            obtain ⟨q0, q1, q2, q3, f0, f1, f2⟩ := HXS.out.c
            go_simp
            refine hK.out _ _ (stU_late HXT.out.p (by kernel_rfl)) ?_
            refine wpAnyG_done (by kernel_rfl) ?_ _
            clear hK K hU q0 q1 q2 q3 f0 f1 f2
            go_wp2
            go_roundg g
            case measure => omega
            case rel => exact ⟨j + 1, _, _, vR, by go_num, by omega, by rw [HS1.out.2.2]; exact HXT.out⟩
        · obtain ⟨y1, hy1⟩ : ∃ Y, wd.alloc (.cells #[.int .i64 (j : Int)] 3) = Y := ⟨_, rfl⟩
          have HX1 : Hid (MeSt w1 w1.heap.size vA vB vR (.slice A4 RB.length cap) [(vA, shA ca (cb.take j)), (vB, shN true ca (cb.take j)), (vR, shN false ca (cb.take j)), (.slice none 0 0, []), (.slice (some ⟨wd.heap.size, 0, none⟩) 1 1, [j])] y1) := by show MeSt _ _ _ _ _ _ _ _; rw [← hy1]; exact HMD.out.lit 4 (x := (.slice none 0 0, [])) rfl j
          go_simp
          try rw [hy1]
          refine hK.out _ _ (stU_of HX1.out.ut) ?_
          clear hK K hUT hy1
          have hUT := HX1.out.ut
          refine callG 7 rfl (by kernel_rfl) (by rfl) (fun K hK => ?_)
          obtain ⟨y2, hy2⟩ : ∃ Y, y1.alloc (.cells #[.int .i64 (z : Int)] 3) = Y := ⟨_, rfl⟩
          have HX2 : Hid (MeSt w1 w1.heap.size vA vB vR (.slice A4 RB.length cap) [(vA, shA ca (cb.take j)), (vB, shN true ca (cb.take j)), (vR, shN false ca (cb.take j)), (.slice (some ⟨y1.heap.size, 0, none⟩) 1 1, [z]), (.slice (some ⟨wd.heap.size, 0, none⟩) 1 1, [j])] y2) := by show MeSt _ _ _ _ _ _ _ _; rw [← hy2]; exact HX1.out.lit 3 (x := (.slice none 0 0, [])) rfl z
          go_simp
          try rw [hy2]
          refine hK.out _ _ (stU_of HX2.out.ut) ?_
          clear hK K hUT hy2
          have hUT := HX2.out.ut
          refine callG 8 rfl (by kernel_rfl) (by rfl) (fun K hK => ?_)
          refine wp_append_int (some 46) rfl _ _ rfl (w1.heap.size + 2) vA (shA ca (cb.take j)) rfl (HX2.out.r.o 0 _ rfl) z y1.heap.size rfl (Own1.cell0 (HX2.out.r.o 3 _ rfl)) HRA8.out HX2.out.lt ?_
          intro vX y3 hoX hgX hvX
          rw [← HS1.out.1] at hoX
          obtain ⟨A5, c5, rfl, _⟩ := hoX.form
          have HX3 : Hid (MeSt w1 w1.heap.size vA vB vR (.slice A4 RB.length cap) [(.slice A5 (shA ca (cb.take (j + 1))).length c5, shA ca (cb.take (j + 1))), (vB, shN true ca (cb.take j)), (vR, shN false ca (cb.take j)), (.slice (some ⟨y1.heap.size, 0, none⟩) 1 1, [z]), (.slice (some ⟨wd.heap.size, 0, none⟩) 1 1, [j])] y3) := HX2.out.app 0 (x := (vA, shA ca (cb.take j))) rfl hoX hgX hvX
          refine hK.out _ _ (stU_of HX3.out.ut) ?_
          clear hK K hUT hoX hgX hvX
          have hUT := HX3.out.ut
          simp only [Act.put, List.setIfInBounds_toArray, List.set_cons_zero, List.set_cons_succ]
          refine callG 15 rfl (by kernel_rfl) (by rfl) (fun K hK => ?_)
          refine wp_append_int (some 53) rfl _ _ rfl (w1.heap.size + 2) vB (shN true ca (cb.take j)) rfl (HX3.out.r.o 1 _ rfl) j wd.heap.size rfl (Own1.cell0 (HX3.out.r.o 4 _ rfl)) HRB8.out HX3.out.lt ?_
          intro vX y4 hoX hgX hvX
          rw [← HS1.out.2.1] at hoX
          obtain ⟨A6, c6, rfl, _⟩ := hoX.form
          have HX4 : Hid (MeSt w1 w1.heap.size vA vB vR (.slice A4 RB.length cap) [(.slice A5 (shA ca (cb.take (j + 1))).length c5, shA ca (cb.take (j + 1))), (.slice A6 (shN true ca (cb.take (j + 1))).length c6, shN true ca (cb.take (j + 1))), (vR, shN false ca (cb.take j)), (.slice (some ⟨y1.heap.size, 0, none⟩) 1 1, [z]), (.slice (some ⟨wd.heap.size, 0, none⟩) 1 1, [j])] y4) := HX3.out.app 1 (x := (vB, shN true ca (cb.take j))) rfl hoX hgX hvX
          refine hK.out _ _ (stU_of HX4.out.ut) ?_
          clear hK K hUT hoX hgX hvX
          have hUT := HX4.out.ut
          simp only [Act.put, List.setIfInBounds_toArray, List.set_cons_zero, List.set_cons_succ]
          refine takeU 16 (some 54) ((.pointer (some ⟨w1.heap.size, 0, none⟩))) rfl rfl (by kernel_rfl) (by kernel_rfl) (by kernel_rfl) rfl (fun _ _ _ h => h) (by rfl) (by (intro _w _hSw; (try dsimp only at _hSw); go_simp)) (stU_of hUT) ?_
          simp only [Act.put, List.setIfInBounds_toArray, List.set_cons_zero, List.set_cons_succ]
          refine takeU 17 (some 55) ((.pointer (some ⟨w1.heap.size, 0, none⟩))) rfl rfl (by kernel_rfl) (by kernel_rfl) (by kernel_rfl) rfl (fun _ _ _ h => h) (by rfl) (by (intro _w _hSw; (try dsimp only at _hSw); go_simp)) (stU_of hUT) ?_
          simp only [Act.put, List.setIfInBounds_toArray, List.set_cons_zero, List.set_cons_succ]
          have HXS := Lib.hid (HX4.out.putA (.slice A5 (shA ca (cb.take (j + 1))).length c5))
          refine callG 18 rfl (by kernel_rfl) (by rfl) (fun K hK => ?_)
          obtain ⟨q0, q1, q2, q3, f0, f1, f2⟩ := HX4.out.c
          go_simp
          refine hK.out _ _ (stU_late HXS.out.p (by kernel_rfl)) ?_
          clear hK K hUT q0 q1 q2 q3 f0 f1 f2
          have hU := HXS.out.p
          refine takeU 19 (some 56) ((.pointer (some ⟨w1.heap.size, 0, none⟩))) rfl rfl (by kernel_rfl) (by kernel_rfl) (by kernel_rfl) rfl (fun _ _ _ h => h) (by rfl) (by (intro _w _hSw; (try dsimp only at _hSw); go_simp)) (stU_late hU (by kernel_rfl)) ?_
          simp only [Act.put, List.setIfInBounds_toArray, List.set_cons_zero, List.set_cons_succ]
          refine takeU 20 (some 57) ((.pointer (some ⟨w1.heap.size, 1, none⟩))) rfl rfl (by kernel_rfl) (by kernel_rfl) (by kernel_rfl) rfl (fun _ _ _ h => h) (by rfl) (by (intro _w _hSw; (try dsimp only at _hSw); go_simp)) (stU_late hU (by kernel_rfl)) ?_
          simp only [Act.put, List.setIfInBounds_toArray, List.set_cons_zero, List.set_cons_succ]
          have HXT := Lib.hid (((HXS.out.putB (.slice A6 (shN true ca (cb.take (j + 1))).length c6)).nil_ 3).nil_ 4)
          refine callG 21 rfl (by kernel_rfl) (by rfl) (fun K hK => ?_)
          obtain ⟨q0, q1, q2, q3, f0, f1, f2⟩ := HXS.out.c
          go_simp
          refine hK.out _ _ (stU_late HXT.out.p (by kernel_rfl)) ?_
          refine wpAnyG_done (by kernel_rfl) ?_ _
          clear hK K hU q0 q1 q2 q3 f0 f1 f2
          go_wp2
          go_roundg g
          case measure => omega
          case rel => exact ⟨j + 1, _, _, vR, by go_num, by omega, by rw [HS1.out.2.2]; exact HXT.out⟩
end Go.Proofs.Ytofmfainhflmmaa
