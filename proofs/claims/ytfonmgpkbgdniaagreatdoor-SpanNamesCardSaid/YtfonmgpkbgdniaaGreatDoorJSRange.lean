/-
  A RANGE OVER A FUNCTION WHOSE ITERATOR STORES INTO A BOX OF ITS OWN (a captured variable, at Bt): the caller's invariant stands that store.
-/
import Derived.RangeFuncNested
import Derived.RangeFuncBound
import Derived.RangeFuncCalls
import Derived.RangeFuncLeaves
import Derived.Test.YtfonmgpkbgdniaaGreatDoorJSText
namespace Go.Proofs.YtfonmgpkbgdniaaGreatDoor
open Go.RowKit

/-- The iterator's contract, where it writes its box: for invariants that stand that. -/
def StopsBox {α : Type} (F : Fence) (n : Nat) (P : Program) (gf : Nat) (lb : Array Value) (encs : α → Array Value) (Bt : Nat) (ok : α → Prop) (Kp : World → World → Prop) (S Sp : List α → Prop) (N : Nat) (w : World) : Prop :=
  ∀ (l : Nat) (J Jx : List α → World → Prop) (W : World), Below w.heap.size w W → AbidesFrom W.heap.size J → (∀ pre X v, J pre X → J pre (X.setCell ⟨Bt, 0, none⟩ v)) →
    (∀ pre x X, J pre X → pre.length < N → ok x → YieldAt F (n - 1) P l (encs x) X fun e X' => (e = .returned (.bool true) ∧ J (pre ++ [x]) X' ∧ Kp X X') ∨ (e = .returned (.bool false) ∧ Jx (pre ++ [x]) X')) →
    J [] W →
    CallsIn F n P gf (#[.func (.yield l) #[] #[]] ++ lb) W fun e X => (∃ v, e = .returned v) ∧ ((∃ xs, S xs ∧ J xs X) ∨ ∃ q, Sp q ∧ Jx q X)

/-- the two blocks of a loop's book-keeping: its record, and what is deferred -/
structure Book (k : Nat) (r : Loop) (W : World) : Prop where
  loop : W.heap[k + 1]? = some (.loop r)
  late : W.heap[k]? = some (.deferred (some []))
theorem Book.grown {k : Nat} {r : Loop} {W W' : World} {row : Option Nat} (h : Book k r W) (hg : W.grownBy W' row) (hr : ∀ b, row = some b → ∃ o : Obj, W.heap[b]? = some o ∧ o.isWalk = true) : Book k r W' :=
  ⟨(grownBy_keeps hg hr h.loop rfl).trans h.loop, (grownBy_keeps hg hr h.late rfl).trans h.late⟩
theorem Book.store {k Bt : Nat} {r : Loop} {W : World} (h : Book k r W) (hB : Bt < k) (v : Value) : Book k r (W.setCell ⟨Bt, 0, none⟩ v) :=
  ⟨(Below.heap_setCell _ _ _ (k + 1) (by show k + 1 ≠ Bt; omega)).trans h.loop, (Below.heap_setCell _ _ _ k (by show k ≠ Bt; omega)).trans h.late⟩
theorem Book.from_ {k : Nat} {r : Loop} {W W' : World} (h : Book k r W) (hk : KeepsFrom k W W') : Book k r W' :=
  ⟨hk.same _ _ (Nat.le_succ k) h.loop rfl, hk.same _ _ (Nat.le_refl k) h.late rfl⟩
theorem Book.put {k : Nat} {r r' : Loop} {W : World} (h : Book k r W) : Book k r' (W.putObj (k + 1) (.loop r')) :=
  ⟨World.putObj_heap_same (Array.getElem?_eq_some_iff.1 h.loop).1, (World.putObj_heap_other (by omega)).trans h.late⟩

variable {F : Fence} {n : Nat} {P : Program}
set_option maxHeartbeats 1000000 in
theorem wpIn_range_box {α : Type} {g : Operand} {ps : Array Tmp} {assign body : Code} {Q : Exit → Act → World → Prop} {a : Act} {w : World}
    (hro : F.round = none) (h1 : 1 ≤ n) {gf : Nat} {lb : Array Value} (hg : a.eval g = .func (.func gf) #[] lb) (hFg : F.fn gf) (eg : ∀ args w, (callFunc gf args).run P w = .ok (.enter gf args) w)
    {encs : α → Array Value} {ok : α → Prop} {Kp : World → World → Prop} {S Sp : List α → Prop} {N Bt : Nat} (hseq : StopsBox F (n - 1) P gf lb encs Bt ok Kp S Sp N w) (hBt : Bt < w.heap.size)
    (hKt : ∀ {A B C : World}, Kp A B → Kp B C → Kp A C) (hKb : ∀ (W : World) (l : Nat) (o o' : Obj), w.heap.size ≤ l → W.heap[l]? = some o → o.isCells = false → o.isWalk = false → Kp W (W.putObj l o'))
    (hps : ∀ x, (encs x).size = ps.size)
    (I : List α → World → Prop) (Ix : Code → List α → World → Prop) (hI : OwnFrom w.heap.size I) (hIx : ∀ c, OwnFrom w.heap.size (Ix c)) (hIb : ∀ pre X v, I pre X → I pre (X.setCell ⟨Bt, 0, none⟩ v)) (h0 : I [] w)
    (a₁ : α → Act) (hassign : ∀ (l : Nat) (x : α) (X : World) (K : Act → World → Prop), K (a₁ x) X → assign.wpIn (F.inRound l) (n - 1 - 1) P (Exit.then K (fun _ _ _ => False)) { tmps := (ps.zip (encs x)).foldl (fun t (p, v) => t.setIfInBounds p v) a.tmps, defers := [] } X)
    (hbody : ∀ (l : Nat) (pre : List α) (x : α) (X : World), I pre X → pre.length < N → ok x → body.wpIn (F.inRound l) (n - 1 - 1) P (ownPostG w.heap.size Kp I Ix (pre ++ [x]) X) (a₁ x) X)
    (hdone : ∀ (D : Nat) (xs : List α) (X : World), w.heap.size ≤ D → S xs → I xs X → X.heap[D]? = some (.deferred (some [])) → Q .normal { a with defers := { target := .collected D, args := #[] } :: a.defers } X)
    (hstop : ∀ (D : Nat) (c : Code) (pre : List α) (X : World), w.heap.size ≤ D → Sp pre → Ix c pre X → X.heap[D]? = some (.deferred (some [])) → c.wpIn F n P Q { a with defers := { target := .collected D, args := #[] } :: a.defers } X) :
    (Code.rangeFunc g ps assign body).wpIn F n P Q a w := by
  refine wpIn_rangeFunc ?_
  intro fn hfn
  rw [hro]
  obtain ⟨k, hk⟩ : ∃ k, w.heap.size = k := ⟨_, rfl⟩
  obtain ⟨r0, hr0⟩ : ∃ r0 : Loop, r0 = { state := .ready, pending := none, fn, tmps := a.tmps, params := ps, assign, body, defers := k } := ⟨_, rfl⟩
  have hbk : Book k r0 ((w.alloc (.deferred (some []))).alloc (.loop r0)) := by
    subst hk
    refine ⟨?_, (Below.heap_alloc _ _ _ (by simp)).trans (World.alloc_heap_new w _)⟩
    have := World.alloc_heap_new (w.alloc (.deferred (some []))) (.loop r0)
    rwa [World.size_alloc] at this
  have hi1 : I [] ((w.alloc (.deferred (some []))).alloc (.loop r0)) := hI.alloc _ (hI.alloc _ h0)
  have hb1 : Below k w ((w.alloc (.deferred (some []))).alloc (.loop r0)) := ((Below.refl _ w).alloc (by omega) _).alloc (by simp; omega) _
  have hen : (Instr.enterLoop fn a.tmps ps assign body none).run P w = .ok (k + 1, [{ target := .collected k, args := #[] }]) ((w.alloc (.deferred (some []))).alloc (.loop r0)) := by
    rw [hr0, ← hk]; exact run_enterLoop_outer _ _ _ _ _
  have hsz : ((w.alloc (.deferred (some []))).alloc (.loop r0)).heap.size = k + 2 := by simp; omega
  generalize ((w.alloc (.deferred (some []))).alloc (.loop r0)) = W1 at hbk hi1 hb1 hen hsz
  rw [hk] at hI hIx hBt
  refine ⟨k + 1, _, W1, { target := .fn (.func gf) lb, args := #[.func (.yield (k + 1)) #[] #[]] }, W1, gf, #[.func (.yield (k + 1)) #[] #[]] ++ lb, W1, hen, ?_, ?_, ?_, fun _ => h1, ?_⟩
  · simp only [resolve, hg]; simp [go_sem]
  · intro f' hf'; simp [Target.leads] at hf'; subst hf'; exact hFg
  · simp [invoke, go_sem, eg]
  have up : ∀ {c : LoopState} {pe : Option Code}, Book k { r0 with state := c, pending := pe } = Book k { r0 with state := c, pending := pe } := rfl
  clear up
  refine (hseq (k + 1) (fun pre X => I pre X ∧ Book k r0 X) (fun pre X => ∃ c, Ix c pre X ∧ Book k { r0 with state := .done, pending := some c } X) W1 (by rw [hk]; exact hb1) ?_ ?_ ?_ ⟨hi1, hbk⟩).mono ?_
  · intro pre X Y row hs hg' hr
    exact ⟨hI pre X Y row hs.1 hg' (fun b e => by obtain ⟨h2, o, ho, hw⟩ := hr b e; exact ⟨by omega, o, ho, Obj.not_cells_of_walk hw⟩), hs.2.grown hg' (fun b e => (hr b e).2)⟩
  · intro pre X v hs
    exact ⟨hIb _ _ _ hs.1, hs.2.store hBt v⟩
  · rintro pre x X ⟨hi, hb⟩ hlen hok
    have hy := run_yield (P := P) (args := encs x) hb.loop (by rw [hr0]; exact hps x)
    rw [hr0] at hy
    refine ⟨fn, _, assign, body, hy, roundIn_of_wpIn hfn (hassign _ x X _ ⟨_, run_beginRound hb.loop (by rw [hr0]), ?_⟩)⟩
    have hbz : Book k { r0 with state := .busy } (X.putObj (k + 1) (.loop { r0 with state := .busy })) := hb.put
    have hk1 : Kp X (X.putObj (k + 1) (.loop { r0 with state := .busy })) := hKb _ _ _ _ (by omega) hb.loop rfl rfl
    refine wpIn_mono (hbody _ pre x _ (hI.putObj _ hi (Nat.le_succ k) hb.loop rfl) hlen hok) ?_
    rw [hk]
    rintro e a3 W3 hp
    have fin : ∀ (jump : Option Code), KeepsFrom k (X.putObj (k + 1) (.loop { r0 with state := .busy })) W3 →
        (Instr.endRound (k + 1) jump).run P W3 = .ok (.bool jump.isNone) (W3.putObj (k + 1) (.loop { r0 with state := if jump.isNone then .ready else .done, pending := jump })) ∧ W3.heap[k + 1]? = some (.loop { r0 with state := .busy }) ∧ Book k { r0 with state := if jump.isNone then .ready else .done, pending := jump } (W3.putObj (k + 1) (.loop { r0 with state := if jump.isNone then .ready else .done, pending := jump })) := fun jump hkf => by
      have h3 := hbz.from_ hkf
      have he := run_endRound (P := P) jump h3.loop
      exact ⟨he, h3.loop, h3.put⟩
    cases e with
    | normal =>
      obtain ⟨hkf, hkp, hi3⟩ := hp
      obtain ⟨hr, hl, hbb⟩ := fin none hkf
      refine ⟨_, _, hr, .inl ⟨rfl, ⟨hI.putObj _ hi3 (Nat.le_succ k) hl rfl, ?_⟩, hKt (hKt hk1 hkp) (hKb _ _ _ _ (by omega) hl rfl rfl)⟩⟩
      rw [hr0] at hbb ⊢
      exact hbb
    | ret =>
      obtain ⟨hkf, hi3⟩ := hp
      obtain ⟨hr, hl, hbb⟩ := fin (some .ret) hkf
      exact ⟨_, _, hr, .inr ⟨rfl, .ret, (hIx _).putObj _ hi3 (Nat.le_succ k) hl rfl, hbb⟩⟩
    | exit id =>
      obtain ⟨hkf, hi3⟩ := hp
      obtain ⟨hr, hl, hbb⟩ := fin (some (.exit id)) hkf
      exact ⟨_, _, hr, .inr ⟨rfl, .exit id, (hIx _).putObj _ hi3 (Nat.le_succ k) hl rfl, hbb⟩⟩
    | goto t =>
      obtain ⟨hkf, hi3⟩ := hp
      obtain ⟨hr, hl, hbb⟩ := fin (some (.goto t)) hkf
      exact ⟨_, _, hr, .inr ⟨rfl, .goto t, (hIx _).putObj _ hi3 (Nat.le_succ k) hl rfl, hbb⟩⟩
    | panic ch => exact hp.elim
    | outgrown => exact hp.elim
  · rintro e W2 ⟨⟨v, rfl⟩, (⟨xs, hS, hi, hb⟩ | ⟨pre, hSp, c, hi, hb⟩)⟩
    · refine ⟨r0.pending, _, run_endLoop hb.loop (by rw [hr0]; simp), ?_⟩
      rw [hr0]
      exact hdone _ xs _ (by omega) hS (hI.putObj _ hi (Nat.le_succ k) hb.loop rfl) ((World.putObj_heap_other (by omega)).trans hb.late)
    · exact ⟨some c, _, run_endLoop hb.loop (by simp), hstop _ c pre _ (by omega) hSp ((hIx c).putObj _ hi (Nat.le_succ k) hb.loop rfl) ((World.putObj_heap_other (by omega)).trans hb.late)⟩
end Go.Proofs.YtfonmgpkbgdniaaGreatDoor
