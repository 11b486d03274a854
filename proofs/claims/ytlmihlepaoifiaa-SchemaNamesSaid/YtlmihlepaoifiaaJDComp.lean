import Derived.Test.YtlmihlepaoifiaaJVSl
import Derived.Test.YtlmihlepaoifiaaJDOrd
import Derived.Test.YtlmihlepaoifiaaJOrd
import Derived.Test.YtlmihlepaoifiaaJORdRead
import Derived.Lib.SliceRun
import Derived.Lib.LazyBuf
import Derived.Laws.StructEq
import Derived.Deep.Draws
import Derived.Deep.LoopGhost
import Derived.Lib.SlicesCompact
import Derived.Test.YtlmihlepaoifiaaJDSl
/-
  CONTRACT: the document's Sorted of values.
-/
namespace Go.Proofs.Ytlmihlepaoifiaa
open Go.RowKit Go.Shelf

theorem OwnV.form {W : World} {B : Nat} {v : Value} {l : List Vl} (h : OwnV W B v l) : ∃ A c, v = .slice A l.length c ∧ SlV W W.heap.size A l ∧ l.length ≤ c ∧ c ≤ maxLen ∧ (A = none → l.length = 0 ∧ c = 0) := by
  rcases h.2 with ⟨rfl, h0⟩ | ⟨g, cap, cur, e, r1, hgb, h1, h2, r2⟩
  · exact ⟨none, 0, by rw [h0], fun hl => absurd (List.length_eq_zero_iff.1 h0) hl, by omega, Nat.zero_le _, fun _ => ⟨h0, rfl⟩⟩
  · obtain ⟨A, c, e2, h3, h4, h5⟩ := OwnV.slv h
    refine ⟨A, c, e2, h3, h4, h5, fun hA => ?_⟩
    rw [e, hA] at e2
    cases e2
/-- what the comparing regions read -/
def CsV (N ba oa bb ob : Nat) (x y : Vl) (W : World) : Prop := VlAt W ba oa x ∧ VlAt W bb ob y ∧ (ba < N ∧ bb < N) ∧ N ≤ W.heap.size
theorem CsV.next {N ba oa bb ob : Nat} {x y : Vl} {W W' : World} (h : CsV N ba oa bb ob x y W) (hb : Below W.heap.size W W') : CsV N ba oa bb ob x y W' :=
  ⟨h.1.next hb (by have := h.2.2; omega), h.2.1.next hb (by have := h.2.2; omega), h.2.2.1, Nat.le_trans h.2.2.2 hb.size⟩
/-- where a slice's rest stands -/
def cutV (A : Option Addr) (c k : Nat) : Option Addr := if c = k then A else A.map (·.add (k * 3))
theorem SlV.drop {W : World} {B : Nat} {A : Option Addr} {l : List Vl} (h : SlV W B A l) {c : Nat} (k : Nat) (hlc : l.length ≤ c) : SlV W B (cutV A c k) (l.drop k) := fun hl => by
  have hk : k < l.length := by
    rcases Nat.lt_or_ge k l.length with h1 | h1
    · exact h1
    · exact absurd (List.drop_of_length_le h1) hl
  obtain ⟨b, o, rfl, hlt, hc⟩ := h (fun e => by rw [e] at hk; exact absurd hk (Nat.not_lt_zero _))
  unfold cutV
  rw [if_neg (by omega)]
  refine ⟨b, o + k * 3, by show some (Addr.add ⟨b, o, none⟩ (k * 3)) = _; rw [addI], hlt, fun j p hp => ?_⟩
  rw [List.getElem?_drop] at hp
  have := hc (k + j) p hp
  rwa [show o + (k + j) * 3 = o + k * 3 + j * 3 from by omega] at this
theorem SlV.take {W : World} {B : Nat} {A : Option Addr} {l : List Vl} (h : SlV W B A l) (k : Nat) : SlV W B A (l.take k) := fun hl => by
  obtain ⟨b, o, e, hlt, hc⟩ := h (fun e => hl (by rw [e]; simp))
  refine ⟨b, o, e, hlt, fun j p hp => hc j p ?_⟩
  rw [List.getElem?_take] at hp
  split at hp
  · exact hp
  · cases hp
end Go.Proofs.Ytlmihlepaoifiaa

/-
  CONTRACT: slices.Compact at values.
-/
namespace Go.Proofs.Ytlmihlepaoifiaa
open Go.RowKit Go.Shelf
open Go.Lib (keeps compactUpTo CompInv keeps_pos keeps_neg keeps_lt_one compactUpTo_all range_map_get)
open Go.Sort (HoldsK)

/-- an array's part that reads as these values, and may be written -/
def RowV (W : World) (g o : Nat) (d : Array Vl) : Prop := ∀ j, j < d.size → VlAt W g (o + j * 3) d[j]! ∧ W.frozen? ⟨g, o + j * 3, none⟩ = false ∧ W.frozen? ⟨g, o + j * 3 + 1, none⟩ = false ∧ W.frozen? ⟨g, o + j * 3 + 2, none⟩ = false
theorem RowV.next {W W' : World} {B g o : Nat} {d : Array Vl} (h : RowV W g o d) (hb : Below B W W') (hg : g < B) : RowV W' g o d := fun j hj =>
  ⟨(h j hj).1.next hb hg, (hb.frozen (p := ⟨g, o + j * 3, none⟩) hg).trans (h j hj).2.1, (hb.frozen (p := ⟨g, o + j * 3 + 1, none⟩) hg).trans (h j hj).2.2.1, (hb.frozen (p := ⟨g, o + j * 3 + 2, none⟩) hg).trans (h j hj).2.2.2⟩
theorem getElem!_setV (d : Array Vl) (k j : Nat) (x : Vl) (hk : k < d.size) : (d.setIfInBounds k x)[j]! = if j = k then x else d[j]! := by
  by_cases e : j = k
  · subst e
    rw [if_pos rfl, getElem!_pos _ _ (by simpa using hk)]; simp
  · rw [if_neg e]
    by_cases hj : j < d.size
    · rw [getElem!_pos (d.setIfInBounds k x) j (by simpa using hj), getElem!_pos d j hj]
      rw [Array.getElem_setIfInBounds, if_neg (by omega)]
    · rw [getElem!_neg (d.setIfInBounds k x) j (by simpa using hj), getElem!_neg d j hj]
theorem RowV.set {W : World} {g o : Nat} {d : Array Vl} (h : RowV W g o d) {k : Nat} (hk : k < d.size) (x : Vl) :
    RowV (((W.setCell ⟨g, o + k * 3, none⟩ (.int .i64 x.1)).setCell ⟨g, o + k * 3 + 1, none⟩ (.int .i64 x.2.1)).setCell ⟨g, o + k * 3 + 2, none⟩ (.string x.2.2)) g o (d.setIfInBounds k x) := fun j hj => by
  have hj' : j < d.size := by simpa using hj
  obtain ⟨⟨c0, c1, c2⟩, f0, f1, f2⟩ := h j hj'
  obtain ⟨⟨k0, k1, k2⟩, _, _, _⟩ := h k hk
  rw [getElem!_setV d k j x hk]
  refine ⟨?_, ?_, ?_, ?_⟩
  · by_cases e : j = k
    · subst e
      rw [if_pos rfl]
      refine ⟨?_, ?_, ?_⟩
      · rw [World.cell?_setCell_other _ _ _ _ (by intro h; injection h with h1 h2; omega), World.cell?_setCell_other _ _ _ _ (by intro h; injection h with h1 h2; omega), World.cell?_setCell_same _ _ _ c0]
      · rw [World.cell?_setCell_other _ _ _ _ (by intro h; injection h with h1 h2; omega), World.cell?_setCell_same _ _ _ (by rw [World.cell?_setCell_other _ _ _ _ (by intro h; injection h with h1 h2; omega)]; exact c1)]
      · rw [World.cell?_setCell_same _ _ _ (by rw [World.cell?_setCell_other _ _ _ _ (by intro h; injection h with h1 h2; omega), World.cell?_setCell_other _ _ _ _ (by intro h; injection h with h1 h2; omega)]; exact c2)]
    · rw [if_neg e]
      have ne : ∀ a b, a < 3 → b < 3 → o + k * 3 + a ≠ o + j * 3 + b := fun a b ha hb => by omega
      have out : ∀ b, b < 3 → (((W.setCell ⟨g, o + k * 3, none⟩ (.int .i64 x.1)).setCell ⟨g, o + k * 3 + 1, none⟩ (.int .i64 x.2.1)).setCell ⟨g, o + k * 3 + 2, none⟩ (.string x.2.2)).cell? ⟨g, o + j * 3 + b, none⟩ = W.cell? ⟨g, o + j * 3 + b, none⟩ := fun b hb => by
        rw [World.cell?_setCell_other _ _ _ _ (by intro h; injection h with h1 h2; exact ne 2 b (by omega) hb h2), World.cell?_setCell_other _ _ _ _ (by intro h; injection h with h1 h2; exact ne 1 b (by omega) hb h2), World.cell?_setCell_other _ _ _ _ (by intro h; injection h with h1 h2; exact ne 0 b (by omega) hb h2)]
      exact ⟨(out 0 (by decide)).trans c0, (out 1 (by decide)).trans c1, (out 2 (by decide)).trans c2⟩
  · simpa using f0
  · simpa using f1
  · simpa using f2
end Go.Proofs.Ytlmihlepaoifiaa

/-
  CONTRACT: slices.Compact at datoms.
-/
namespace Go.Proofs.Ytlmihlepaoifiaa
open Go.RowKit Go.Shelf
open Go.Lib (keeps compactUpTo CompInv keeps_pos keeps_neg keeps_lt_one compactUpTo_all range_map_get)
open Go.Sort (HoldsK)

instance : DecidableEq Dat := fun a b => decidable_of_iff (a.e = b.e ∧ a.a = b.a ∧ valD a = valD b ∧ tailD a = tailD b) ⟨fun ⟨h1, h2, h3, h4⟩ => dat_eq h1 h2 h3 h4, fun h => by rw [h]; exact ⟨rfl, rfl, rfl, rfl⟩⟩
/-- an array's part that reads as these datoms, and may be written -/
def RowD (W : World) (g o : Nat) (d : Array Dat) : Prop := ∀ j, j < d.size → DtAt W g (o + j * 9) d[j]! ∧ ∀ i, i < 9 → W.frozen? ⟨g, o + j * 9 + i, none⟩ = false
theorem RowD.next {W W' : World} {B g o : Nat} {d : Array Dat} (h : RowD W g o d) (hb : Below B W W') (hg : g < B) : RowD W' g o d := fun j hj =>
  ⟨(h j hj).1.next hb hg, fun i hi => (hb.frozen (p := ⟨g, o + j * 9 + i, none⟩) hg).trans ((h j hj).2 i hi)⟩
theorem getElem!_setD (d : Array Dat) (k j : Nat) (x : Dat) (hk : k < d.size) : (d.setIfInBounds k x)[j]! = if j = k then x else d[j]! := by
  by_cases e : j = k
  · subst e
    rw [if_pos rfl, getElem!_pos (d.setIfInBounds j x) j (by simpa using hk)]; simp
  · rw [if_neg e]
    by_cases hj : j < d.size
    · rw [getElem!_pos (d.setIfInBounds k x) j (by simpa using hj), getElem!_pos d j hj]
      rw [Array.getElem_setIfInBounds, if_neg (by omega)]
    · rw [getElem!_neg (d.setIfInBounds k x) j (by simpa using hj), getElem!_neg d j hj]
/-- nine cells stored -/
def set9D (W : World) (b o : Nat) (x : Dat) : World := ((((((((W.setCell ⟨b, o, none⟩ (.int .i64 x.e)).setCell ⟨b, o + 1, none⟩ (.int .i64 x.a)).setCell ⟨b, o + 2, none⟩ (.int .i64 x.k)).setCell ⟨b, o + 3, none⟩ (.int .i64 x.m)).setCell ⟨b, o + 4, none⟩ (.string x.s)).setCell ⟨b, o + 5, none⟩ (.int .i64 x.t)).setCell ⟨b, o + 6, none⟩ (.bool x.add)).setCell ⟨b, o + 7, none⟩ (.int .i64 x.fr)).setCell ⟨b, o + 8, none⟩ (.int .i64 x.til)
theorem set9D_is (W : World) (b o : Nat) (x : Dat) : set9D W b o x = W.setCells b o (cellsD x) := rfl
theorem RowD.set {W : World} {g o : Nat} {d : Array Dat} (h : RowD W g o d) {k : Nat} (hk : k < d.size) (x : Dat) :
    RowD (set9D W g (o + k * 9) x) g o (d.setIfInBounds k x) := fun j hj => by
  have hj' : j < d.size := by simpa using hj
  rw [getElem!_setD d k j x hk, set9D_is]
  refine ⟨?_, fun i hi => by rw [World.frozen?_setCells]; exact (h j hj').2 i hi⟩
  by_cases e : j = k
  · subst e
    rw [if_pos rfl]
    intro i hi
    rw [World.cell?_setCells_in g (cellsD x) (o + j * 9) W (fun q hq => by rw [(h j hj').1 q hq]; rw [cellsD_len] at hq; rw [List.getElem?_eq_getElem (by rw [cellsD_len]; exact hq)]; rfl) i (by rw [cellsD_len]; exact hi)]
    first | rfl | rw [List.getElem?_eq_getElem (by rw [cellsD_len]; exact hi)]
  · rw [if_neg e]
    intro i hi
    rw [World.cell?_setCells_out g (cellsD x) (o + k * 9) W ⟨g, o + j * 9 + i, none⟩ (fun _ _ => by rw [cellsD_len]; show o + j * 9 + i < _ ∨ _ ≤ o + j * 9 + i; omega)]
    exact (h j hj').1 i hi
end Go.Proofs.Ytlmihlepaoifiaa
