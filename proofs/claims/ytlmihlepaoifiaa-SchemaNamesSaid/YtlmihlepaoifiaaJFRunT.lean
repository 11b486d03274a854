import Derived.StillTailTactics
import Derived.Sort.CutIn
import Derived.Test.YtlmihlepaoifiaaJFRunG
import Derived.Shelf.RegionOpen
/-
  CONTRACTS: the iterators of runs, at triples and at transactions.
-/
namespace Go.Proofs.Ytlmihlepaoifiaa
open Go.RowKit Go.Shelf
attribute [local go_sem] Oper.semAt_some

/-- the data lie, and the key's box -/
def KpR (B : Nat) (A : Option Addr) (l : List Dat) (Bk : Nat) (t : TypeId) (fv : Value) (X Y : World) : Prop := (SlD X B A l → SlD Y B A l) ∧ (Boxed X Bk t fv → Boxed Y Bk t fv) ∧ X.heap.size ≤ Y.heap.size
theorem KpR.trans {B : Nat} {A : Option Addr} {l : List Dat} {Bk : Nat} {t : TypeId} {fv : Value} {X Y Z : World} (h : KpR B A l Bk t fv X Y) (k : KpR B A l Bk t fv Y Z) : KpR B A l Bk t fv X Z := ⟨fun x => k.1 (h.1 x), fun x => k.2.1 (h.2.1 x), Nat.le_trans h.2.2 k.2.2⟩
/-- what stands while a stretch is measured: the datoms, the key's box -/
def RunS (w0 : World) (B : Nat) (A : Option Addr) (l : List Dat) (Bk : Nat) (t : TypeId) (fv : Value) (W : World) : Prop := SlD W B A l ∧ Boxed W Bk t fv ∧ B ≤ w0.heap.size ∧ Bk < w0.heap.size ∧ Below w0.heap.size w0 W
theorem RunS.next {w0 W W' : World} {B : Nat} {A : Option Addr} {l : List Dat} {Bk : Nat} {t : TypeId} {fv : Value} (h : RunS w0 B A l Bk t fv W) (hb : Below W.heap.size W W') : RunS w0 B A l Bk t fv W' := by
  obtain ⟨h1, h2, h3, h4, h5⟩ := h
  have := h5.size
  exact ⟨h1.next hb (by omega), (hb.block Bk (by omega)).trans h2, h3, h4, h5.trans (hb.mono h5.size)⟩
theorem RunS.far {w0 W W' : World} {B : Nat} {A : Option Addr} {l : List Dat} {Bk : Nat} {t : TypeId} {fv : Value} (h : RunS w0 B A l Bk t fv W) (hb : Below w0.heap.size W W') : RunS w0 B A l Bk t fv W' := by
  obtain ⟨h1, h2, h3, h4, h5⟩ := h
  exact ⟨h1.next hb h3, (hb.block Bk h4).trans h2, h3, h4, h5.trans hb⟩
/-- a key in its box -/
def KeyAt (W : World) (bk : Nat) (x : Dat) : Prop := W.heap[bk]? = some (.cells #[.int .i64 x.e, .int .i64 x.a, .int .i64 x.k, .int .i64 x.m, .string x.s] 87 (0, 0))
theorem KeyAt.cell {W : World} {bk : Nat} {x : Dat} (h : KeyAt W bk x) (j : Nat) : W.cell? ⟨bk, j, none⟩ = (#[Value.int .i64 x.e, .int .i64 x.a, .int .i64 x.k, .int .i64 x.m, .string x.s])[j]? := by unfold KeyAt at h; simp [World.cell?, h]
theorem KeyAt.lt {W : World} {bk : Nat} {x : Dat} (h : KeyAt W bk x) : bk < W.heap.size := (Array.getElem?_eq_some_iff.1 h).1
theorem KeyAt.next {W W' : World} {bk : Nat} {x : Dat} (h : KeyAt W bk x) (hb : Below W.heap.size W W') : KeyAt W' bk x := (hb.block bk h.lt).trans h
theorem RunS.drew {w0 W : World} {B : Nat} {A : Option Addr} {l : List Dat} {Bk : Nat} {t : TypeId} {fv : Value} (h : RunS w0 B A l Bk t fv W) : RunS w0 B A l Bk t fv W.drew := h.next (below_ind (Below.refl _ W) 1)

end Go.Proofs.Ytlmihlepaoifiaa

/-
  CONTRACT: the iterator of runs, at triples.
-/
namespace Go.Proofs.Ytlmihlepaoifiaa
open Go.RowKit Go.Shelf
attribute [local go_sem] Oper.semAt_some

/-- a new key box, ahead of the store -/
def ZBox (W : World) (bk : Nat) : Prop := W.heap[bk]? = some (.cells #[.int .i64 0, .int .i64 0, .int .i64 0, .int .i64 0, .string ⟨#[]⟩] 87 (0, 0))
theorem ZBox.cell {W : World} {bk : Nat} (h : ZBox W bk) (j : Nat) : W.cell? ⟨bk, j, none⟩ = (#[Value.int .i64 0, .int .i64 0, .int .i64 0, .int .i64 0, .string ⟨#[]⟩])[j]? := by unfold ZBox at h; simp [World.cell?, h]
theorem ZBox.frozen {W : World} {bk : Nat} (h : ZBox W bk) (j : Nat) : W.frozen? ⟨bk, j, none⟩ = false := by unfold ZBox at h; simp [World.frozen?, h]
theorem ZBox.lt {W : World} {bk : Nat} (h : ZBox W bk) : bk < W.heap.size := (Array.getElem?_eq_some_iff.1 h).1
theorem ZBox.next {W W' : World} {bk : Nat} (h : ZBox W bk) (hb : Below W.heap.size W W') : ZBox W' bk := (hb.block bk h.lt).trans h
/-- what stands while a stretch is measured, its key in a box -/
def RunK (w0 : World) (B : Nat) (A : Option Addr) (l : List Dat) (Bk : Nat) (t : TypeId) (fv : Value) (bk : Nat) (x : Dat) (W : World) : Prop := RunS w0 B A l Bk t fv W ∧ KeyAt W bk x
theorem RunK.next {w0 W W' : World} {B : Nat} {A : Option Addr} {l : List Dat} {Bk : Nat} {t : TypeId} {fv : Value} {bk : Nat} {x : Dat} (h : RunK w0 B A l Bk t fv bk x W) (hb : Below W.heap.size W W') : RunK w0 B A l Bk t fv bk x W' := ⟨h.1.next hb, h.2.next hb⟩
theorem RunK.drew {w0 W : World} {B : Nat} {A : Option Addr} {l : List Dat} {Bk : Nat} {t : TypeId} {fv : Value} {bk : Nat} {x : Dat} (h : RunK w0 B A l Bk t fv bk x W) : RunK w0 B A l Bk t fv bk x W.drew := h.next (below_ind (Below.refl _ W) 1)
theorem callV2 {P : Program} {ops : Array Oper} {Q : Exit → Act → World → Prop} {md : Region.Mode} {S : World → Prop} {fuel : Nat} {listed : Array Bool} {a : Act} {w : World} (i j : Nat) {oi oj : Oper} (hi : ops[i]? = some oi) (hj : ops[j]? = some oj) (hr : Region.ready md ops listed = [i, j]) (hwi : Region.wanted oi (yielded ops a.tmps) = true) (hwj : Region.wanted oj (yielded ops a.tmps) = true)
    (h1 : ∀ K' : Act → World → Prop, Shut (∀ a w, S w → (S w → wpAnyH P md ops Q S fuel (listed.setIfInBounds i true) a w) → K' a w) → Oper.wp P oi a w K' Q)
    (h2 : ∀ K' : Act → World → Prop, Shut (∀ a w, S w → (S w → wpAnyH P md ops Q S fuel (listed.setIfInBounds j true) a w) → K' a w) → Oper.wp P oj a w K' Q) : wpAnyH P md ops Q S (fuel + 1) listed a w :=
  wpAnyH_ready hr (by simp) (AllReadyH.cons hi (fun K' hK => by rw [if_pos hwi]; exact h1 K' hK) (AllReadyH.cons hj (fun K' hK => by rw [if_pos hwj]; exact h2 K' hK) AllReadyH.nil))

end Go.Proofs.Ytlmihlepaoifiaa
