import Derived.Test.YtbcdkfolmncjlaaJVSl
import Derived.Test.YtbcdkfolmncjlaaJDOrd
import Derived.Test.YtbcdkfolmncjlaaJOrd
import Derived.Test.YtbcdkfolmncjlaaJORdRead
import Derived.Lib.SliceRun
import Derived.Lib.LazyBuf
import Derived.Laws.StructEq
import Derived.Deep.Draws
import Derived.Deep.LoopGhost
import Derived.Lib.SlicesCompact
import Derived.Test.YtbcdkfolmncjlaaJOArgs
/-
  CONTRACT: the document's Sorted of values.
-/
namespace Go.Proofs.Ytbcdkfolmncjlaa
open Go.RowKit Go.Shelf

theorem putAt_lt {α : Type} {o : α → α → Int} {x : α} : ∀ {l : List α} {i : Nat}, i < putAt o x l → ∃ hi : i < l.length, o l[i] x < 0
  | [], i, h => absurd h (Nat.not_lt_zero _)
  | y :: r, i, h => by
    rw [putAt] at h
    by_cases h1 : o y x < 0
    · rw [if_pos h1] at h
      cases i with
      | zero => exact ⟨by simp, h1⟩
      | succ i =>
        obtain ⟨hi, h2⟩ := putAt_lt (o := o) (x := x) (l := r) (i := i) (by omega)
        exact ⟨by simp; omega, h2⟩
    · rw [if_neg h1] at h
      exact absurd h (Nat.not_lt_zero _)
theorem putAt_end {α : Type} {o : α → α → Int} {x : α} : ∀ {l : List α} (h : putAt o x l < l.length), ¬ o l[putAt o x l] x < 0
  | [], h => absurd h (Nat.not_lt_zero _)
  | y :: r, h => by
    by_cases h1 : o y x < 0
    · have e : putAt o x (y :: r) = putAt o x r + 1 := by rw [putAt, if_pos h1]
      have h2 : putAt o x r < r.length := by rw [e] at h; simpa using h
      have := putAt_end h2
      simpa [e] using this
    · have e : putAt o x (y :: r) = 0 := by rw [putAt, if_neg h1]
      simpa [e] using h1
theorem putG_old {α : Type} {o : α → α → Int} {x : α} {l : List α} (h : putAt o x l < l.length) (h0 : o l[putAt o x l] x = 0) : putG o l x = l := by
  unfold putG
  rw [if_pos]
  rw [List.getElem?_eq_getElem h]
  simp [h0]
theorem putG_new {α : Type} {o : α → α → Int} {x : α} {l : List α} (h0 : ∀ h : putAt o x l < l.length, o l[putAt o x l] x ≠ 0) : putG o l x = l.take (putAt o x l) ++ x :: l.drop (putAt o x l) := by
  unfold putG
  rw [if_neg]
  by_cases h : putAt o x l < l.length
  · rw [List.getElem?_eq_getElem h]
    simp [h0 h]
  · rw [List.getElem?_eq_none (by omega)]
    simp
theorem putAt_ltQ {α : Type} {o : α → α → Int} {x y : α} {l : List α} {i : Nat} (h : i < putAt o x l) (hy : l[i]? = some y) : o y x < 0 := by
  obtain ⟨hi, h2⟩ := putAt_lt h
  rw [List.getElem?_eq_getElem hi] at hy
  rw [← Option.some.inj hy]; exact h2
theorem putAt_endQ {α : Type} {o : α → α → Int} {x y : α} {l : List α} (hy : l[putAt o x l]? = some y) : ¬ o y x < 0 := by
  obtain ⟨hi, e⟩ := List.getElem?_eq_some_iff.1 hy
  rw [← e]; exact putAt_end hi
theorem putG_oldQ {α : Type} {o : α → α → Int} {x y : α} {l : List α} (hy : l[putAt o x l]? = some y) (h0 : o y x = 0) : putG o l x = l := by
  obtain ⟨hi, e⟩ := List.getElem?_eq_some_iff.1 hy
  exact putG_old hi (by rw [e]; exact h0)
theorem putG_newQ {α : Type} {o : α → α → Int} {x : α} {l : List α} (h0 : ∀ y, l[putAt o x l]? = some y → o y x ≠ 0) : putG o l x = l.take (putAt o x l) ++ x :: l.drop (putAt o x l) :=
  putG_new fun h => h0 _ (List.getElem?_eq_getElem h)
theorem putsG_take {α : Type} {o : α → α → Int} {l : List α} {j : Nat} (h : j < l.length) : putsG o (l.take (j + 1)) = putG o (putsG o (l.take j)) l[j] := by
  unfold putsG
  rw [List.take_succ_eq_append_getElem h, List.foldl_append]; rfl
theorem OwnV.form {W : World} {B : Nat} {v : Value} {l : List Vl} (h : OwnV W B v l) : ∃ A c, v = .slice A l.length c ∧ SlV W W.heap.size A l ∧ l.length ≤ c ∧ c ≤ maxLen ∧ (A = none → l.length = 0 ∧ c = 0) := by
  rcases h.2 with ⟨rfl, h0⟩ | ⟨g, cap, cur, e, r1, hgb, h1, h2, r2⟩
  · exact ⟨none, 0, by rw [h0], fun hl => absurd (List.length_eq_zero_iff.1 h0) hl, by omega, Nat.zero_le _, fun _ => ⟨h0, rfl⟩⟩
  · obtain ⟨A, c, e2, h3, h4, h5⟩ := OwnV.slv h
    refine ⟨A, c, e2, h3, h4, h5, fun hA => ?_⟩
    rw [e, hA] at e2
    cases e2
/-- what the comparing regions read -/
def CsV (N ba oa bb ob : Nat) (x y : Vl) (W : World) : Prop := VlAt W ba oa x ∧ VlAt W bb ob y ∧ (ba < N ∧ bb < N) ∧ N ≤ W.heap.size
theorem CsV.next {N ba oa bb ob : Nat} {x y : Vl} {W W' : World} (h : CsV N ba oa bb ob x y W) (hb : Below W.heap.size W W') : CsV N ba oa bb ob x y W' :=
  ⟨h.1.next hb (by have := h.2.2; omega), h.2.1.next hb (by have := h.2.2; omega), h.2.2.1, Nat.le_trans h.2.2.2 hb.size⟩
/-- where a slice's rest stands -/
def cutV (A : Option Addr) (c k : Nat) : Option Addr := if c = k then A else A.map (·.add (k * 3))
theorem SlV.drop {W : World} {B : Nat} {A : Option Addr} {l : List Vl} (h : SlV W B A l) {c : Nat} (k : Nat) (hlc : l.length ≤ c) : SlV W B (cutV A c k) (l.drop k) := fun hl => by
  have hk : k < l.length := by
    rcases Nat.lt_or_ge k l.length with h1 | h1
    · exact h1
    · exact absurd (List.drop_of_length_le h1) hl
  obtain ⟨b, o, rfl, hlt, hc⟩ := h (fun e => by rw [e] at hk; exact absurd hk (Nat.not_lt_zero _))
  unfold cutV
  rw [if_neg (by omega)]
  refine ⟨b, o + k * 3, by show some (Addr.add ⟨b, o, none⟩ (k * 3)) = _; rw [addI], hlt, fun j p hp => ?_⟩
  rw [List.getElem?_drop] at hp
  have := hc (k + j) p hp
  rwa [show o + (k + j) * 3 = o + k * 3 + j * 3 from by omega] at this
theorem SlV.take {W : World} {B : Nat} {A : Option Addr} {l : List Vl} (h : SlV W B A l) (k : Nat) : SlV W B A (l.take k) := fun hl => by
  obtain ⟨b, o, e, hlt, hc⟩ := h (fun e => hl (by rw [e]; simp))
  refine ⟨b, o, e, hlt, fun j p hp => hc j p ?_⟩
  rw [List.getElem?_take] at hp
  split at hp
  · exact hp
  · cases hp
end Go.Proofs.Ytbcdkfolmncjlaa

/-
  CONTRACT: slices.Compact at values.
-/
namespace Go.Proofs.Ytbcdkfolmncjlaa
open Go.RowKit Go.Shelf
open Go.Lib (keeps compactUpTo CompInv keeps_pos keeps_neg keeps_lt_one compactUpTo_all range_map_get)
open Go.Sort (HoldsK)

theorem eqInV (x y : Vl) (w : World) : (Op.equalIn 10000 27 (.agg #[.int .i64 x.1, .int .i64 x.2.1, .string x.2.2]) (.agg #[.int .i64 y.1, .int .i64 y.2.1, .string y.2.2])).run Try.prog w = .ok (decide (x = y)) w := by
  obtain ⟨a, b, s⟩ := x
  obtain ⟨a', b', s'⟩ := y
  have u3 := Try.underlying3
  have u2 := Try.underlying2
  have u9 := Try.underlying9
  have a3 := Try.isAgg3
  have a2 := Try.isAgg2
  have a9 := Try.isAgg9
  have hS : Try.prog.underlying 27 = some (.struct (Try.prog.fieldsOf 27)) := by kernel_rfl
  have hp : Try.prog.stoodInHeld 27 = false := by kernel_rfl
  have hd : decide ((a, b, s) = (a', b', s')) = ((a == a') && ((b == b') && (s.toList == s'.toList))) := by
    rw [Bool.eq_iff_iff]
    simp only [decide_eq_true_eq, Prod.mk.injEq, Bool.and_eq_true, beq_iff_eq]
    constructor
    · rintro ⟨h1, h2, h3⟩
      exact ⟨h1, h2, by rw [h3]⟩
    · rintro ⟨h1, h2, h3⟩
      refine ⟨h1, h2, ?_⟩
      rw [ByteArray.toList_eq, ByteArray.toList_eq] at h3
      obtain ⟨⟨l⟩⟩ := s
      obtain ⟨⟨l'⟩⟩ := s'
      simpa using h3
  rw [hd, show (10000 : Nat) = 9999 + 1 from rfl, run_equalIn_agg w 9999 27 _ _ hS hp]
  simp only [Program.fieldsOf, Try.underlying27]
  by_cases h1 : (a == a') = true
  · by_cases h2 : (b == b') = true
    · by_cases h3 : (s.toList == s'.toList) = true
      · rw [h1, h2, h3]
        go_simp
      · rw [Bool.not_eq_true] at h3
        rw [h1, h2, h3]
        go_simp
    · rw [Bool.not_eq_true] at h2
      rw [h1, h2]
      go_simp
  · rw [Bool.not_eq_true] at h1
    rw [h1]
    go_simp
theorem eqV_run (x y : Vl) (w : World) : (binOp .eql 27 (.agg #[.int .i64 x.1, .int .i64 x.2.1, .string x.2.2]) (.agg #[.int .i64 y.1, .int .i64 y.2.1, .string y.2.2])).run Try.prog w = .ok (.bool (decide (x = y))) w := by
  rw [run_eql_struct, eqInV]; rfl
theorem neV_run (x y : Vl) (w : World) : (binOp .neq 27 (.agg #[.int .i64 x.1, .int .i64 x.2.1, .string x.2.2]) (.agg #[.int .i64 y.1, .int .i64 y.2.1, .string y.2.2])).run Try.prog w = .ok (.bool (!decide (x = y))) w := by
  rw [run_neq_struct, eqInV]; rfl

/-- an array's part that reads as these values, and may be written -/
def RowV (W : World) (g o : Nat) (d : Array Vl) : Prop := ∀ j, j < d.size → VlAt W g (o + j * 3) d[j]! ∧ W.frozen? ⟨g, o + j * 3, none⟩ = false ∧ W.frozen? ⟨g, o + j * 3 + 1, none⟩ = false ∧ W.frozen? ⟨g, o + j * 3 + 2, none⟩ = false
theorem rowV_of {W : World} {g : Nat} {d : Array Vl} (h : HoldsK cellsV 3 W g 0 d) : RowV W g 0 d := fun j hj => by
  have hx : d.toList[j]? = some d[j]! := by rw [getElem!_pos d j hj]; simp
  have c := fun i (hi : i < 3) => cells_holdsG cellsV_len (by decide) h hx hi
  rw [Nat.zero_add]
  exact ⟨⟨(c 0 (by decide)).1, (c 1 (by decide)).1, (c 2 (by decide)).1⟩, (c 0 (by decide)).2, (c 1 (by decide)).2, (c 2 (by decide)).2⟩
theorem RowV.draw {W : World} {g o : Nat} {d : Array Vl} (h : RowV W g o d) (n : Nat) : RowV (W.drewN n) g o d := fun j hj => by
  obtain ⟨⟨c0, c1, c2⟩, f0, f1, f2⟩ := h j hj
  exact ⟨⟨c0, c1, c2⟩, f0, f1, f2⟩
theorem RowV.next {W W' : World} {B g o : Nat} {d : Array Vl} (h : RowV W g o d) (hb : Below B W W') (hg : g < B) : RowV W' g o d := fun j hj =>
  ⟨(h j hj).1.next hb hg, (hb.frozen (p := ⟨g, o + j * 3, none⟩) hg).trans (h j hj).2.1, (hb.frozen (p := ⟨g, o + j * 3 + 1, none⟩) hg).trans (h j hj).2.2.1, (hb.frozen (p := ⟨g, o + j * 3 + 2, none⟩) hg).trans (h j hj).2.2.2⟩
theorem getElem!_setV (d : Array Vl) (k j : Nat) (x : Vl) (hk : k < d.size) : (d.setIfInBounds k x)[j]! = if j = k then x else d[j]! := by
  by_cases e : j = k
  · subst e
    rw [if_pos rfl, getElem!_pos _ _ (by simpa using hk)]; simp
  · rw [if_neg e]
    by_cases hj : j < d.size
    · rw [getElem!_pos (d.setIfInBounds k x) j (by simpa using hj), getElem!_pos d j hj]
      rw [Array.getElem_setIfInBounds, if_neg (by omega)]
    · rw [getElem!_neg (d.setIfInBounds k x) j (by simpa using hj), getElem!_neg d j hj]
theorem RowV.set {W : World} {g o : Nat} {d : Array Vl} (h : RowV W g o d) {k : Nat} (hk : k < d.size) (x : Vl) :
    RowV (((W.setCell ⟨g, o + k * 3, none⟩ (.int .i64 x.1)).setCell ⟨g, o + k * 3 + 1, none⟩ (.int .i64 x.2.1)).setCell ⟨g, o + k * 3 + 2, none⟩ (.string x.2.2)) g o (d.setIfInBounds k x) := fun j hj => by
  have hj' : j < d.size := by simpa using hj
  obtain ⟨⟨c0, c1, c2⟩, f0, f1, f2⟩ := h j hj'
  obtain ⟨⟨k0, k1, k2⟩, _, _, _⟩ := h k hk
  rw [getElem!_setV d k j x hk]
  refine ⟨?_, ?_, ?_, ?_⟩
  · by_cases e : j = k
    · subst e
      rw [if_pos rfl]
      refine ⟨?_, ?_, ?_⟩
      · rw [World.cell?_setCell_other _ _ _ _ (by intro h; injection h with h1 h2; omega), World.cell?_setCell_other _ _ _ _ (by intro h; injection h with h1 h2; omega), World.cell?_setCell_same _ _ _ c0]
      · rw [World.cell?_setCell_other _ _ _ _ (by intro h; injection h with h1 h2; omega), World.cell?_setCell_same _ _ _ (by rw [World.cell?_setCell_other _ _ _ _ (by intro h; injection h with h1 h2; omega)]; exact c1)]
      · rw [World.cell?_setCell_same _ _ _ (by rw [World.cell?_setCell_other _ _ _ _ (by intro h; injection h with h1 h2; omega), World.cell?_setCell_other _ _ _ _ (by intro h; injection h with h1 h2; omega)]; exact c2)]
    · rw [if_neg e]
      have ne : ∀ a b, a < 3 → b < 3 → o + k * 3 + a ≠ o + j * 3 + b := fun a b ha hb => by omega
      have out : ∀ b, b < 3 → (((W.setCell ⟨g, o + k * 3, none⟩ (.int .i64 x.1)).setCell ⟨g, o + k * 3 + 1, none⟩ (.int .i64 x.2.1)).setCell ⟨g, o + k * 3 + 2, none⟩ (.string x.2.2)).cell? ⟨g, o + j * 3 + b, none⟩ = W.cell? ⟨g, o + j * 3 + b, none⟩ := fun b hb => by
        rw [World.cell?_setCell_other _ _ _ _ (by intro h; injection h with h1 h2; exact ne 2 b (by omega) hb h2), World.cell?_setCell_other _ _ _ _ (by intro h; injection h with h1 h2; exact ne 1 b (by omega) hb h2), World.cell?_setCell_other _ _ _ _ (by intro h; injection h with h1 h2; exact ne 0 b (by omega) hb h2)]
      exact ⟨(out 0 (by decide)).trans c0, (out 1 (by decide)).trans c1, (out 2 (by decide)).trans c2⟩
  · simpa using f0
  · simpa using f1
  · simpa using f2
theorem below_set3 {W : World} {B b o : Nat} (hb : B ≤ b) (u0 u1 u2 : Value) : Below B W (((W.setCell ⟨b, o, none⟩ u0).setCell ⟨b, o + 1, none⟩ u1).setCell ⟨b, o + 2, none⟩ u2) :=
  ((((Below.refl B W).setCell (p := ⟨b, o, none⟩) hb _).setCell (p := ⟨b, o + 1, none⟩) hb _).setCell (p := ⟨b, o + 2, none⟩) hb _)
/-- what stands ahead of some place, as a slice -/
theorem RowV.sl {W : World} {g o : Nat} {d : Array Vl} (h : RowV W g o d) {r : List Vl} (hr : ∀ j v, r[j]? = some v → j < d.size ∧ v = d[j]!) : SlV W (g + 1) (some ⟨g, o, none⟩) r := fun _ =>
  ⟨g, o, rfl, Nat.lt_succ_self _, fun j v hv => by obtain ⟨h1, h2⟩ := hr j v hv; rw [h2]; exact (h j h1).1⟩
theorem below_drewN {n0 : Nat} (w : World) (q : Nat) : Below n0 w (w.drewN q) := ⟨rfl, rfl, rfl, Nat.le_refl _, fun _ _ => rfl⟩
/-- what Compact leaves -/
def CompEnd (g o cap n0 : Nat) (d : Array Vl) (w : World) (e : Ending) (w' : World) : Prop :=
  ∃ r : List Vl, r = compactUpTo d d.size ∧ e = .returned (.slice (some ⟨g, o, none⟩) r.length cap) ∧ SlV w' (g + 1) (some ⟨g, o, none⟩) r ∧ Below n0 w w' ∧ g + 1 ≤ w'.heap.size
theorem compEnd_all {g o cap n0 : Nat} {d : Array Vl} {w wr : World} (hH : RowV wr g o d) (hb : Below n0 w wr) (hg : g < wr.heap.size) (hall : ∀ j, j < d.size → keeps d j = true) :
    CompEnd g o cap n0 d w (.returned (.slice (some ⟨g, o, none⟩) d.size cap)) wr := by
  have e : compactUpTo d d.size = d.toList := by rw [compactUpTo_all d _ hall, range_map_get]
  refine ⟨d.toList, e.symm, by simp, hH.sl fun j v hv => ?_, hb, hg⟩
  obtain ⟨hj, e⟩ := List.getElem?_eq_some_iff.1 hv
  have hj' : j < d.size := by simpa using hj
  exact ⟨hj', by rw [getElem!_pos d j hj', ← e]; simp⟩
theorem compEnd_cut {g o cap n0 : Nat} {d dk : Array Vl} {w wr : World} {k : Nat} (vs : List Value) (hI : CompInv d d.size k dk) (hH : RowV wr g o dk) (hn : n0 ≤ g) (hb : Below n0 w wr) (hg : g < wr.heap.size) :
    CompEnd g o cap n0 d w (.returned (.slice (some ⟨g, o, none⟩) k cap)) (wr.setCells g (o + k * 3) vs) := by
  refine ⟨compactUpTo d d.size, rfl, by rw [hI.len], fun _ => ⟨g, o, rfl, Nat.lt_succ_self _, fun j v hv => ?_⟩, below_setCells hn vs _ _ hb, ?_⟩
  · obtain ⟨hj, _⟩ := List.getElem?_eq_some_iff.1 hv
    rw [hI.len] at hj
    have hjd : j < dk.size := by have := hI.lt; have := hI.size; omega
    have e := hI.low j hj
    rw [hv] at e
    have e2 := Option.some.inj e
    obtain ⟨⟨c0, c1, c2⟩, _⟩ := hH j hjd
    rw [e2]
    have out : ∀ b, b < 3 → (wr.setCells g (o + k * 3) vs).cell? ⟨g, o + j * 3 + b, none⟩ = wr.cell? ⟨g, o + j * 3 + b, none⟩ := fun b hb => World.cell?_setCells_out g vs _ _ _ fun _ _ => .inl (by show o + j * 3 + b < _; omega)
    exact ⟨(out 0 (by decide)).trans c0, (out 1 (by decide)).trans c1, (out 2 (by decide)).trans c2⟩
  · have := (below_setCells (B := 0) (b := g) (Nat.zero_le _) vs (o + k * 3) wr (Below.refl 0 wr)).size
    omega

end Go.Proofs.Ytbcdkfolmncjlaa

/-
  CONTRACT: slices.Compact at datoms.
-/
namespace Go.Proofs.Ytbcdkfolmncjlaa
open Go.RowKit Go.Shelf
open Go.Lib (keeps compactUpTo CompInv keeps_pos keeps_neg keeps_lt_one compactUpTo_all range_map_get)
open Go.Sort (HoldsK)

instance : DecidableEq Dat := fun a b => decidable_of_iff (a.e = b.e ∧ a.a = b.a ∧ valD a = valD b ∧ tailD a = tailD b) ⟨fun ⟨h1, h2, h3, h4⟩ => dat_eq h1 h2 h3 h4, fun h => by rw [h]; exact ⟨rfl, rfl, rfl, rfl⟩⟩
theorem eqInV9 (k n : Int) (s : ByteArray) (k' n' : Int) (s' : ByteArray) (w : World) : (Op.equalIn 9999 27 (.agg #[.int .i64 k, .int .i64 n, .string s]) (.agg #[.int .i64 k', .int .i64 n', .string s'])).run Try.prog w = .ok ((k == k') && ((n == n') && (s.toList == s'.toList))) w := by
  have u3 := Try.underlying3
  have u2 := Try.underlying2
  have u9 := Try.underlying9
  have a3 := Try.isAgg3
  have a2 := Try.isAgg2
  have a9 := Try.isAgg9
  have hS : Try.prog.underlying 27 = some (.struct (Try.prog.fieldsOf 27)) := by kernel_rfl
  have hp : Try.prog.stoodInHeld 27 = false := by kernel_rfl
  rw [show (9999 : Nat) = 9998 + 1 from rfl, run_equalIn_agg w 9998 27 _ _ hS hp]
  simp only [Program.fieldsOf, Try.underlying27]
  obtain ⟨b1, h1⟩ : ∃ b, (k == k') = b := ⟨_, rfl⟩
  obtain ⟨b2, h2⟩ : ∃ b, (n == n') = b := ⟨_, rfl⟩
  obtain ⟨b3, h3⟩ : ∃ b, (s.toList == s'.toList) = b := ⟨_, rfl⟩
  rw [h1, h2, h3]
  cases b1 <;> cases b2 <;> cases b3 <;> go_simp
theorem eqInD (x y : Dat) (w : World) : (Op.equalIn 10000 130 (.agg #[.int .i64 x.e, .int .i64 x.a, .int .i64 x.k, .int .i64 x.m, .string x.s, .int .i64 x.t, .bool x.add, .int .i64 x.fr, .int .i64 x.til]) (.agg #[.int .i64 y.e, .int .i64 y.a, .int .i64 y.k, .int .i64 y.m, .string y.s, .int .i64 y.t, .bool y.add, .int .i64 y.fr, .int .i64 y.til])).run Try.prog w = .ok (decide (x = y)) w := by
  have u4 := Try.underlying4
  have u2 := Try.underlying2
  have u9 := Try.underlying9
  have a4 := Try.isAgg4
  have a2 := Try.isAgg2
  have a9 := Try.isAgg9
  have aV := Try.isAgg27
  have hS : Try.prog.underlying 130 = some (.struct (Try.prog.fieldsOf 130)) := by kernel_rfl
  have hp : Try.prog.stoodInHeld 130 = false := by kernel_rfl
  have hV := fun w => eqInV9 x.k x.m x.s y.k y.m y.s w
  have hd : decide (x = y) = ((x.e == y.e) && ((x.a == y.a) && (((x.k == y.k) && ((x.m == y.m) && (x.s.toList == y.s.toList))) && ((x.t == y.t) && ((x.add == y.add) && ((x.fr == y.fr) && (x.til == y.til))))))) := by
    rw [Bool.eq_iff_iff]
    simp only [decide_eq_true_eq, Bool.and_eq_true, beq_iff_eq]
    constructor
    · intro h
      rw [h]
      exact ⟨rfl, rfl, ⟨rfl, rfl, rfl⟩, rfl, rfl, rfl, rfl⟩
    · rintro ⟨h1, h2, ⟨h3, h4, h5⟩, h6, h7, h8, h9⟩
      have h10 : x.s = y.s := by
        rw [ByteArray.toList_eq, ByteArray.toList_eq] at h5
        cases hx : x.s with
        | mk l =>
          cases hy : y.s with
          | mk l' =>
            rw [hx, hy] at h5
            cases l
            cases l'
            simpa using h5
      refine dat_eq h1 h2 ?_ ?_
      · unfold valD; rw [h3, h4, h10]
      · unfold tailD; rw [h6, h7, h8, h9]
  rw [hd, show (10000 : Nat) = 9999 + 1 from rfl, run_equalIn_agg w 9999 130 _ _ hS hp]
  simp only [Program.fieldsOf, Try.underlying130]
  obtain ⟨b1, h1⟩ : ∃ b, (x.e == y.e) = b := ⟨_, rfl⟩
  obtain ⟨b2, h2⟩ : ∃ b, (x.a == y.a) = b := ⟨_, rfl⟩
  obtain ⟨b3, h3⟩ : ∃ b, ((x.k == y.k) && ((x.m == y.m) && (x.s.toList == y.s.toList))) = b := ⟨_, rfl⟩
  obtain ⟨b4, h4⟩ : ∃ b, (x.t == y.t) = b := ⟨_, rfl⟩
  obtain ⟨b5, h5⟩ : ∃ b, (x.add == y.add) = b := ⟨_, rfl⟩
  obtain ⟨b6, h6⟩ : ∃ b, (x.fr == y.fr) = b := ⟨_, rfl⟩
  obtain ⟨b7, h7⟩ : ∃ b, (x.til == y.til) = b := ⟨_, rfl⟩
  rw [h3] at hV
  rw [h1, h2, h3, h4, h5, h6, h7]
  clear hd h3
  cases b1
  · go_simp
  cases b2
  · go_simp
  cases b3
  · go_simp
  cases b4
  · go_simp
  cases b5
  · go_simp
  cases b6
  · go_simp
  cases b7
  · go_simp
  · go_simp
theorem eqD_run (x y : Dat) (w : World) : (binOp .eql 130 (.agg #[.int .i64 x.e, .int .i64 x.a, .int .i64 x.k, .int .i64 x.m, .string x.s, .int .i64 x.t, .bool x.add, .int .i64 x.fr, .int .i64 x.til]) (.agg #[.int .i64 y.e, .int .i64 y.a, .int .i64 y.k, .int .i64 y.m, .string y.s, .int .i64 y.t, .bool y.add, .int .i64 y.fr, .int .i64 y.til])).run Try.prog w = .ok (.bool (decide (x = y))) w := by
  rw [run_eql_struct, eqInD]; rfl
theorem neD_run (x y : Dat) (w : World) : (binOp .neq 130 (.agg #[.int .i64 x.e, .int .i64 x.a, .int .i64 x.k, .int .i64 x.m, .string x.s, .int .i64 x.t, .bool x.add, .int .i64 x.fr, .int .i64 x.til]) (.agg #[.int .i64 y.e, .int .i64 y.a, .int .i64 y.k, .int .i64 y.m, .string y.s, .int .i64 y.t, .bool y.add, .int .i64 y.fr, .int .i64 y.til])).run Try.prog w = .ok (.bool (!decide (x = y))) w := by
  rw [run_neq_struct, eqInD]; rfl

/-- an array's part that reads as these datoms, and may be written -/
def RowD (W : World) (g o : Nat) (d : Array Dat) : Prop := ∀ j, j < d.size → DtAt W g (o + j * 9) d[j]! ∧ ∀ i, i < 9 → W.frozen? ⟨g, o + j * 9 + i, none⟩ = false
theorem rowD_of {W : World} {g : Nat} {d : Array Dat} (h : HoldsK cellsD 9 W g 0 d) : RowD W g 0 d := fun j hj => by
  have hx : d.toList[j]? = some d[j]! := by rw [getElem!_pos d j hj]; simp
  have c := fun i (hi : i < 9) => cells_holdsG cellsD_len (by decide) h hx hi
  rw [Nat.zero_add]
  exact ⟨fun i hi => (c i hi).1, fun i hi => (c i hi).2⟩
theorem RowD.draw {W : World} {g o : Nat} {d : Array Dat} (h : RowD W g o d) (n : Nat) : RowD (W.drewN n) g o d := h
theorem RowD.next {W W' : World} {B g o : Nat} {d : Array Dat} (h : RowD W g o d) (hb : Below B W W') (hg : g < B) : RowD W' g o d := fun j hj =>
  ⟨(h j hj).1.next hb hg, fun i hi => (hb.frozen (p := ⟨g, o + j * 9 + i, none⟩) hg).trans ((h j hj).2 i hi)⟩
theorem getElem!_setD (d : Array Dat) (k j : Nat) (x : Dat) (hk : k < d.size) : (d.setIfInBounds k x)[j]! = if j = k then x else d[j]! := by
  by_cases e : j = k
  · subst e
    rw [if_pos rfl, getElem!_pos (d.setIfInBounds j x) j (by simpa using hk)]; simp
  · rw [if_neg e]
    by_cases hj : j < d.size
    · rw [getElem!_pos (d.setIfInBounds k x) j (by simpa using hj), getElem!_pos d j hj]
      rw [Array.getElem_setIfInBounds, if_neg (by omega)]
    · rw [getElem!_neg (d.setIfInBounds k x) j (by simpa using hj), getElem!_neg d j hj]
/-- nine cells stored -/
def set9D (W : World) (b o : Nat) (x : Dat) : World := ((((((((W.setCell ⟨b, o, none⟩ (.int .i64 x.e)).setCell ⟨b, o + 1, none⟩ (.int .i64 x.a)).setCell ⟨b, o + 2, none⟩ (.int .i64 x.k)).setCell ⟨b, o + 3, none⟩ (.int .i64 x.m)).setCell ⟨b, o + 4, none⟩ (.string x.s)).setCell ⟨b, o + 5, none⟩ (.int .i64 x.t)).setCell ⟨b, o + 6, none⟩ (.bool x.add)).setCell ⟨b, o + 7, none⟩ (.int .i64 x.fr)).setCell ⟨b, o + 8, none⟩ (.int .i64 x.til)
theorem set9D_is (W : World) (b o : Nat) (x : Dat) : set9D W b o x = W.setCells b o (cellsD x) := rfl
theorem RowD.set {W : World} {g o : Nat} {d : Array Dat} (h : RowD W g o d) {k : Nat} (hk : k < d.size) (x : Dat) :
    RowD (set9D W g (o + k * 9) x) g o (d.setIfInBounds k x) := fun j hj => by
  have hj' : j < d.size := by simpa using hj
  rw [getElem!_setD d k j x hk, set9D_is]
  refine ⟨?_, fun i hi => by rw [World.frozen?_setCells]; exact (h j hj').2 i hi⟩
  by_cases e : j = k
  · subst e
    rw [if_pos rfl]
    intro i hi
    rw [World.cell?_setCells_in g (cellsD x) (o + j * 9) W (fun q hq => by rw [(h j hj').1 q hq]; rw [cellsD_len] at hq; rw [List.getElem?_eq_getElem (by rw [cellsD_len]; exact hq)]; rfl) i (by rw [cellsD_len]; exact hi)]
    first | rfl | rw [List.getElem?_eq_getElem (by rw [cellsD_len]; exact hi)]
  · rw [if_neg e]
    intro i hi
    rw [World.cell?_setCells_out g (cellsD x) (o + k * 9) W ⟨g, o + j * 9 + i, none⟩ (fun _ _ => by rw [cellsD_len]; show o + j * 9 + i < _ ∨ _ ≤ o + j * 9 + i; omega)]
    exact (h j hj').1 i hi
theorem below_set9D {W : World} {B b o : Nat} (hb : B ≤ b) (x : Dat) : Below B W (set9D W b o x) := by
  rw [set9D_is]
  exact below_setCells hb _ _ _ (Below.refl B W)
theorem size_set9D (W : World) (b o : Nat) (x : Dat) : (set9D W b o x).heap.size = W.heap.size := by
  unfold set9D; simp
/-- what stands ahead of some place, as a slice -/
theorem RowD.sl {W : World} {g o : Nat} {d : Array Dat} (h : RowD W g o d) {r : List Dat} (hr : ∀ j v, r[j]? = some v → j < d.size ∧ v = d[j]!) : SlD W (g + 1) (some ⟨g, o, none⟩) r := fun _ =>
  ⟨g, o, rfl, Nat.lt_succ_self _, fun j v hv => by obtain ⟨h1, h2⟩ := hr j v hv; rw [h2]; exact (h j h1).1⟩
/-- what Compact leaves -/
def CompEndD (g o cap n0 : Nat) (d : Array Dat) (w : World) (e : Ending) (w' : World) : Prop :=
  ∃ r : List Dat, r = compactUpTo d d.size ∧ e = .returned (.slice (some ⟨g, o, none⟩) r.length cap) ∧ SlD w' (g + 1) (some ⟨g, o, none⟩) r ∧ Below n0 w w' ∧ g + 1 ≤ w'.heap.size
theorem compEndD_all {g o cap n0 : Nat} {d : Array Dat} {w wr : World} (hH : RowD wr g o d) (hb : Below n0 w wr) (hg : g < wr.heap.size) (hall : ∀ j, j < d.size → keeps d j = true) :
    CompEndD g o cap n0 d w (.returned (.slice (some ⟨g, o, none⟩) d.size cap)) wr := by
  have e : compactUpTo d d.size = d.toList := by rw [compactUpTo_all d _ hall, range_map_get]
  refine ⟨d.toList, e.symm, by simp, hH.sl fun j v hv => ?_, hb, hg⟩
  obtain ⟨hj, e⟩ := List.getElem?_eq_some_iff.1 hv
  have hj' : j < d.size := by simpa using hj
  exact ⟨hj', by rw [getElem!_pos d j hj', ← e]; simp⟩
theorem compEndD_cut {g o cap n0 : Nat} {d dk : Array Dat} {w wr : World} {k : Nat} (vs : List Value) (hI : CompInv d d.size k dk) (hH : RowD wr g o dk) (hn : n0 ≤ g) (hb : Below n0 w wr) (hg : g < wr.heap.size) :
    CompEndD g o cap n0 d w (.returned (.slice (some ⟨g, o, none⟩) k cap)) (wr.setCells g (o + k * 9) vs) := by
  refine ⟨compactUpTo d d.size, rfl, by rw [hI.len], fun _ => ⟨g, o, rfl, Nat.lt_succ_self _, fun j v hv => ?_⟩, below_setCells hn vs _ _ hb, ?_⟩
  · obtain ⟨hj, _⟩ := List.getElem?_eq_some_iff.1 hv
    rw [hI.len] at hj
    have hjd : j < dk.size := by have := hI.lt; have := hI.size; omega
    have e := hI.low j hj
    rw [hv] at e
    have e2 := Option.some.inj e
    have hat := (hH j hjd).1
    rw [e2]
    intro b hb
    rw [World.cell?_setCells_out g vs _ _ _ fun _ _ => .inl (by show o + j * 9 + b < _; omega)]
    exact hat b hb
  · have := (below_setCells (B := 0) (b := g) (Nat.zero_le _) vs (o + k * 9) wr (Below.refl 0 wr)).size
    omega

end Go.Proofs.Ytbcdkfolmncjlaa
