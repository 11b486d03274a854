import Derived.Test.YtbcdkfolmncjlaaJFMay
import Derived.Test.YtbcdkfolmncjlaaJHBy
import Derived.Test.YtbcdkfolmncjlaaJFThen
import Derived.Test.YtbcdkfolmncjlaaJOArgs
/-
  CONTRACTS: slices.Clone at spans; facts.Spans.
-/
namespace Go.Proofs.Ytbcdkfolmncjlaa
open Go.RowKit Go.Shelf

theorem ownS_zero' (W : World) (B : Nat) (hB : B ≤ W.heap.size) : OwnS (W.alloc (.cells #[] 34)) B (.slice (some ⟨W.heap.size, 0, none⟩) 0 0) [] :=
  ⟨rfl, .inr ⟨W.heap.size, 0, #[], rfl, hB, heap_alloc_new W _, Nat.le_refl _, Nat.zero_le _, rfl, rfl⟩⟩
/-- What facts.Spans answers. -/
def SpEnd (w : World) (fs : List FactP) (x : Int × Int × Int × Int × ByteArray) (en : Ending) (w' : World) : Prop :=
  (∃ v ec, en = .returned (.tuple #[v, .int .i64 ec]) ∧ ((mayFs fs = true ∧ ec = 0 ∧ SV w' v (spansOf fs x)) ∨ (mayFs fs = false ∧ ec = 60 ∧ v = .slice none 0 0))) ∧ Below w.heap.size w w'
/-- a value in a box -/
def VBx (W : World) (b : Nat) (k m : Int) (s : ByteArray) : Prop := W.heap[b]? = some (.cells #[.int .i64 k, .int .i64 m, .string s] 27 (0, 0))
theorem VBx.cell {W : World} {b : Nat} {k m : Int} {s : ByteArray} (h : VBx W b k m s) (j : Nat) : W.cell? ⟨b, j, none⟩ = (#[Value.int .i64 k, .int .i64 m, .string s])[j]? := by unfold VBx at h; simp [World.cell?, h]
theorem VBx.k0 {W : World} {b : Nat} {k m : Int} {s : ByteArray} (h : VBx W b k m s) : W.cell? ⟨b, 0, none⟩ = some (.int .i64 k) := h.cell 0
theorem VBx.k1 {W : World} {b : Nat} {k m : Int} {s : ByteArray} (h : VBx W b k m s) : W.cell? ⟨b, 1, none⟩ = some (.int .i64 m) := h.cell 1
theorem VBx.k2 {W : World} {b : Nat} {k m : Int} {s : ByteArray} (h : VBx W b k m s) : W.cell? ⟨b, 2, none⟩ = some (.string s) := h.cell 2
theorem VBx.next {W W' : World} {b : Nat} {k m : Int} {s : ByteArray} (h : VBx W b k m s) (hb : Below W.heap.size W W') : VBx W' b k m s := (hb.block b (Array.getElem?_eq_some_iff.1 h).1).trans h
def FSS (w0 : World) (bx : Nat) (f : FactP) (sv : Value) (bv : Nat) (k m : Int) (s : ByteArray) (W : World) : Prop := FcBx W bx f sv ∧ SVa W sv f.l ∧ VBx W bv k m s ∧ Below w0.heap.size w0 W
theorem FSS.next {w0 W W' : World} {bx : Nat} {f : FactP} {sv : Value} {bv : Nat} {k m : Int} {s : ByteArray} (h : FSS w0 bx f sv bv k m s W) (hb : Below W.heap.size W W') : FSS w0 bx f sv bv k m s W' :=
  ⟨h.1.next hb, h.2.1.next hb, h.2.2.1.next hb, h.2.2.2.trans (hb.mono h.2.2.2.size)⟩
end Go.Proofs.Ytbcdkfolmncjlaa

/-
  CONTRACTS: the closure that says changes, and the one that says both kinds of a triple's.
-/
namespace Go.Proofs.Ytbcdkfolmncjlaa
open Go.RowKit Go.Shelf

/-- blocks of another type than datoms', but one, lie as they lay -/
def KeepT (Bl : Nat) (W W' : World) : Prop := W.heap.size ≤ W'.heap.size ∧ ∀ k cs t fr, k ≠ Bl → W.heap[k]? = some (Obj.cells cs t fr) → t ≠ 130 → W'.heap[k]? = some (Obj.cells cs t fr)
theorem KeepT.refl (Bl : Nat) (W : World) : KeepT Bl W W := ⟨Nat.le_refl _, fun _ _ _ _ _ h _ => h⟩
theorem keepT_below {Bl : Nat} {W W' : World} (h : Below W.heap.size W W') : KeepT Bl W W' := ⟨h.size, fun k _ _ _ _ hc _ => (h.block k (Array.getElem?_eq_some_iff.1 hc).1).trans hc⟩
theorem KeepT.trans {Bl : Nat} {X Y Z : World} (h : KeepT Bl X Y) (k : KeepT Bl Y Z) : KeepT Bl X Z := ⟨Nat.le_trans h.1 k.1, fun i cs t fr h1 h2 h3 => k.2 i cs t fr h1 (h.2 i cs t fr h1 h2 h3) h3⟩
theorem KeepT.boxed {Bl : Nat} {W W' : World} (h : KeepT Bl W W') {b : Nat} {t : TypeId} {v : Value} (hb : Boxed W b t v) (hne : b ≠ Bl) (ht : t ≠ 130) : Boxed W' b t v := h.2 b _ _ _ hne hb ht
theorem KeepT.trAt {Bl : Nat} {W W' : World} (h : KeepT Bl W W') {b : Nat} {e a k m : Int} {s : ByteArray} (hb : TrAt W b e a k m s) (hne : b ≠ Bl) : TrAt W' b e a k m s := h.2 b _ _ _ hne hb (by decide)
theorem take_snoc_map {l : List Sp} {j : Nat} {x y : Int} (h : l[j]? = some (x, y)) (f : Sp → Dat) : (l.take (j + 1)).map f = (l.take j).map f ++ [f (x, y)] := by
  rw [List.take_add_one, h]
  simp
end Go.Proofs.Ytbcdkfolmncjlaa

/-
  CONTRACTS: take, least and together of Changes.
-/
namespace Go.Proofs.Ytbcdkfolmncjlaa
open Go.RowKit Go.Shelf

/-- all blocks but one lie as they lay -/
def KeepX (Bx : Nat) (W W' : World) : Prop := W.heap.size ≤ W'.heap.size ∧ ∀ k, k < W.heap.size → k ≠ Bx → W'.heap[k]? = W.heap[k]?
theorem keepX_below {Bx : Nat} {W W' : World} (h : Below W.heap.size W W') : KeepX Bx W W' := ⟨h.size, fun k hk _ => h.block k hk⟩
theorem KeepX.trans {Bx : Nat} {X Y Z : World} (h : KeepX Bx X Y) (k : KeepX Bx Y Z) : KeepX Bx X Z := ⟨Nat.le_trans h.1 k.1, fun i h1 h2 => (k.2 i (Nat.lt_of_lt_of_le h1 h.1) h2).trans (h.2 i h1 h2)⟩
theorem KeepX.boxed {Bx : Nat} {W W' : World} (h : KeepX Bx W W') {b : Nat} {t : TypeId} {v : Value} (hb : Boxed W b t v) (hne : b ≠ Bx) : Boxed W' b t v := (h.2 b hb.lt hne).trans hb
theorem KeepX.trAt {Bx : Nat} {W W' : World} (h : KeepX Bx W W') {b : Nat} {e a k m : Int} {s : ByteArray} (hb : TrAt W b e a k m s) (hne : b ≠ Bx) : TrAt W' b e a k m s := (h.2 b hb.lt hne).trans hb
theorem KeepX.ownD {Bx B : Nat} {W W' : World} (h : KeepX Bx W W') {t : TypeId} {u v : Value} {l : List Dat} (ho : OwnD W B v l) (hb : Boxed W Bx t u) (ht : t ≠ 130) (hos : W'.os = W.os) (htp : W'.tape = W.tape) (hop : W'.output = W.output) : OwnD W' B v l := by
  refine World.ownsRow.kept ho (row := some Bx) ⟨hos, htp, hop, h.1, fun k hk hne => h.2 k hk (fun e => hne (by rw [e]))⟩ (.inr ?_)
  exact (hb.not_row ht ho).symm
def cutF (A : Option Addr) (c k : Nat) : Option Addr := if c = k then A else A.map (·.add (k * 6))
theorem sliceF_from (A : Option Addr) (n c k : Nat) (hk : k ≤ n) (w : World) : (Instr.slice 24 (.slice A n c) (some (.int .i64 (k : Int))) none none).run Try.prog w = .ok (.slice (cutF A c k) (n - k) (c - k)) w := by
  have hT : Try.prog.underlying 24 = some (.slice (Try.prog.elem 24)) := by kernel_rfl
  have hS : (Go.sizeOf (Try.prog.elem 24)).run Try.prog w = .ok 6 w := by kernel_rfl
  rw [run_slice_l (w := w) 24 A n c hT .i64 (k : Int) (by omega) (by omega), hS]
  simp [Result.andThen, sliced, cutF]
theorem FVa.tail {W : World} {A : Option Addr} {c : Nat} {f : FactP} {l : List FactP} (h : FVa W (.slice A (l.length + 1) c) (f :: l)) : FVa W (.slice (cutF A c 1) l.length (c - 1)) l := by
  obtain ⟨A2, c2, e, hs, h2, h3⟩ := h
  injection e with e1 e2 e3
  subst e1 e3
  rw [List.length_cons] at h2
  refine ⟨_, _, rfl, fun hl => ?_, by omega, by omega⟩
  obtain ⟨b, o, rfl, hlt, hc⟩ := hs (by simp)
  have hl0 := List.length_pos_iff.2 hl
  unfold cutF
  rw [if_neg (by omega)]
  refine ⟨b, o + 6, by show some (Addr.add ⟨b, o, none⟩ (1 * 6)) = _; rw [addI], hlt, fun j g hg => ?_⟩
  have := hc (j + 1) g (by simpa using hg)
  rwa [show o + (j + 1) * 6 = o + 6 + j * 6 by omega] at this

theorem neTri (x y : Dat) (w : World) : (binOp .neq 94 (triV x) (triV y)).run Try.prog w = .ok (.bool (!decide (triD x = triD y))) w := by
  have h := eqTri x y w
  unfold triV at h ⊢
  rw [run_eql_struct] at h
  rw [run_neq_struct]
  revert h
  generalize (Op.equalIn 10000 94 (.agg #[.int .i64 x.e, .int .i64 x.a, .int .i64 x.k, .int .i64 x.m, .string x.s]) (.agg #[.int .i64 y.e, .int .i64 y.a, .int .i64 y.k, .int .i64 y.m, .string y.s])).run Try.prog w = R
  intro h
  cases R <;> simp [Result.andThen] at h ⊢ <;> simp [h]
/-- What take answers. -/
def TakeEnd (w : World) (B Bx : Nat) (l : List FactP) (x : Tri) (W : World) (en : Ending) (W' : World) : Prop :=
  ∃ u A c, en = .returned u ∧ SVa w u (takeS l x) ∧ FVa w (.slice A (takeR l x).length c) (takeR l x) ∧ Boxed W' Bx 24 (.slice A (takeR l x).length c) ∧ KeepX Bx W W' ∧ Below B W W'
theorem nil_sv (w : World) : SVa w (.slice none 0 0) [] := ⟨none, 0, rfl, fun h => absurd rfl h, Nat.le_refl _, Nat.zero_le _⟩
end Go.Proofs.Ytbcdkfolmncjlaa

/-
  CONTRACT: least of two lists of facts.
-/
namespace Go.Proofs.Ytbcdkfolmncjlaa
open Go.RowKit Go.Shelf

theorem TrAt.fz {W : World} {b : Nat} {e a k m : Int} {s : ByteArray} (h : TrAt W b e a k m s) (j : Nat) : W.frozen? ⟨b, j, none⟩ = false := by unfold TrAt at h; simp [World.frozen?, h]
def LstS (w : World) (bt : Nat) (b o : Nat) (f : FactP) (fv : Value) (b' o' : Nat) (g : FactP) (gv : Value) (W : World) : Prop := (TrAt W bt 0 0 0 0 ⟨#[]⟩ ∧ Below w.heap.size w W) ∧ FcV W b o f fv ∧ b < W.heap.size ∧ FcV W b' o' g gv ∧ b' < W.heap.size
theorem LstS.next {w W W' : World} {bt b o : Nat} {f : FactP} {fv : Value} {b' o' : Nat} {g : FactP} {gv : Value} (h : LstS w bt b o f fv b' o' g gv W) (hb : Below W.heap.size W W') : LstS w bt b o f fv b' o' g gv W' :=
  ⟨⟨h.1.1.next hb, h.1.2.trans (hb.mono h.1.2.size)⟩, h.2.1.next hb h.2.2.1, Nat.lt_of_lt_of_le h.2.2.1 hb.size, h.2.2.2.1.next hb h.2.2.2.2, Nat.lt_of_lt_of_le h.2.2.2.2 hb.size⟩
end Go.Proofs.Ytbcdkfolmncjlaa

/-
  CONTRACTS: together and Changes.
-/
namespace Go.Proofs.Ytbcdkfolmncjlaa
open Go.RowKit Go.Shelf

theorem minusL_len (a b : List Sp) : (minusL a b).length ≤ a.length + b.length := by
  by_cases hx : ∃ r, SetL r ∧ ∀ t, Inn r t ↔ Inn a t ∧ ¬ Inn b t
  · obtain ⟨r, r1, r2⟩ := hx
    have e1 := minusL_is r1 r2
    have := minusL_few (a := a) (b := b) (by rw [e1]; exact r1) (by rw [e1]; exact r2)
    omega
  · unfold minusL
    rw [dif_neg hx]
    exact Nat.zero_le _
theorem chgT_len (t : Int) (q : Tri × List Sp × List Sp) : (chgT t q).length ≤ 2 * (q.2.1.length + q.2.2.length) := by
  unfold chgT
  rw [List.length_append, List.length_map, List.length_map]
  have h1 := minusL_len q.2.2 q.2.1
  have h2 := minusL_len q.2.1 q.2.2
  omega
/-- facts whose spans are sets of instants -/
def GoodF (l : List FactP) : Prop := ∀ f ∈ l, SetL f.l ∧ ∀ q ∈ f.l, SpOk q
theorem goodF_take {l r : List FactP} (h : GoodF l) (hs : r.Sublist l) (p : Tri) : SetL (takeS r p) ∧ ∀ q ∈ takeS r p, SpOk q := by
  rcases takeS_cases r p with e | ⟨f, hf, e, _⟩
  · rw [e]; exact ⟨setL_nil, fun q hq => by cases hq⟩
  · rw [e]; exact h f (hs.subset hf)
theorem takeS_len (l : List FactP) (p : Tri) : (takeS l p).length ≤ sumS l := by have := sumS_take l p; omega
theorem sumS_sub {r l : List FactP} (h : r.Sublist l) : sumS r ≤ sumS l := by
  induction h with
  | slnil => exact Nat.le_refl _
  | cons x _ ih => unfold sumS at ih ⊢; simp; omega
  | cons_cons x _ ih => unfold sumS at ih ⊢; simp; omega
end Go.Proofs.Ytbcdkfolmncjlaa
