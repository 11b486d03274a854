import Derived.Test.YtoidkhojkekjeaaJDComp
import Derived.Test.YtoidkhojkekjeaaJDSortD
import Derived.Test.YtoidkhojkekjeaaJDMeth
import Derived.Test.YtoidkhojkekjeaaJFLastP
import Derived.Test.YtoidkhojkekjeaaJOWords
import Derived.Test.YtoidkhojkekjeaaJDCmp
import Derived.StillTailTactics
import Derived.Sort.CutIn
import Derived.Shelf.RegionOpen
/-
  CONTRACTS: ofDatom, Fold's closures, ContainsFunc over datoms, runs.
-/
namespace Go.Proofs.Ytoidkhojkekjeaa
open Go.RowKit Go.Shelf

/-- a triple as a value -/
def triV (d : Dat) : Value := .agg #[.int .i64 d.e, .int .i64 d.a, .int .i64 d.k, .int .i64 d.m, .string d.s]
def notMay (l : List Dat) : Bool := l.any fun d => !mayD d
end Go.Proofs.Ytoidkhojkekjeaa

/-
  FACTS on stretches of a slice: where each stands; triples compared.
-/
namespace Go.Proofs.Ytoidkhojkekjeaa
open Go.RowKit Go.Shelf

/-- where the rest stands behind some stretches, and its capacity -/
def stR : Option Addr → Nat → List (List Dat) → Option Addr × Nat
  | A, c, [] => (A, c)
  | A, c, r :: q => stR (cutD A c r.length) (c - r.length) q
theorem stR_snoc (r : List Dat) : ∀ (pre : List (List Dat)) (A : Option Addr) (c : Nat), stR A c (pre ++ [r]) = (cutD (stR A c pre).1 (stR A c pre).2 r.length, (stR A c pre).2 - r.length)
  | [], _, _ => rfl
  | _ :: pre, _, _ => stR_snoc r pre _ _
theorem stR_cap : ∀ (pre : List (List Dat)) (A : Option Addr) (c : Nat), (stR A c pre).2 = c - pre.flatten.length
  | [], A, c => by simp [stR]
  | q :: pre, A, c => by
    show (stR (cutD A c q.length) (c - q.length) pre).2 = _
    rw [stR_cap pre, List.flatten_cons, List.length_append]; omega
theorem stR_sl {W : World} {B : Nat} : ∀ (pre : List (List Dat)) {A : Option Addr} {c : Nat} {l : List Dat}, SlD W B A l → l.length ≤ c → pre.flatten.length ≤ l.length → SlD W B (stR A c pre).1 (l.drop pre.flatten.length)
  | [], _, _, _, h, _, _ => by simpa [stR] using h
  | q :: pre, A, c, l, h, hlc, hp => by
    rw [List.flatten_cons, List.length_append] at hp
    have := stR_sl pre (c := c - q.length) (h.drop q.length hlc) (by rw [List.length_drop]; omega) (by rw [List.length_drop]; omega)
    rw [List.drop_drop] at this
    rw [List.flatten_cons, List.length_append]
    exact this
section
variable {κ : Type} [DecidableEq κ] (key : Dat → κ)
/-- what is left behind i stretches -/
def restR (l : List Dat) (i : Nat) : List Dat := l.drop ((runsL key l).take i).flatten.length
theorem runs_drop : ∀ (i : Nat) (l : List Dat), runsL key (restR key l i) = (runsL key l).drop i
  | 0, l => by unfold restR; simp
  | i + 1, l => by
    by_cases hl : l = []
    · subst hl; unfold restR; rw [runsL_nil]; simp [runsL_nil]
    · have h1 := runs_drop i (l.drop (runN key l))
      have hle := runN_le key l
      unfold restR at h1 ⊢
      rw [runsL_step key hl, List.take_succ_cons, List.flatten_cons, List.length_append, List.length_take, Nat.min_eq_left hle, List.drop_succ_cons, ← List.drop_drop]
      exact h1
theorem restR_next {l : List Dat} {i : Nat} (h : i < (runsL key l).length) : restR key l i ≠ [] ∧ (runsL key l)[i] = (restR key l i).take (runN key (restR key l i)) ∧ restR key l (i + 1) = (restR key l i).drop (runN key (restR key l i)) := by
  have h1 := runs_drop key i l
  have h2 : restR key l i ≠ [] := by
    intro e
    rw [e, runsL_nil] at h1
    have := congrArg List.length h1
    rw [List.length_drop] at this
    simp at this
    omega
  rw [runsL_step key h2, List.drop_eq_getElem_cons h] at h1
  injection h1 with h3 h4
  have hle := runN_le key (restR key l i)
  refine ⟨h2, h3.symm, ?_⟩
  have h5 : ((runsL key l)[i]).length = runN key (restR key l i) := by rw [← h3, List.length_take, Nat.min_eq_left hle]
  show l.drop ((runsL key l).take (i + 1)).flatten.length = _
  rw [List.take_succ_eq_append_getElem h, List.flatten_append, List.length_append, ← List.drop_drop]
  simp only [List.flatten_cons, List.flatten_nil, List.append_nil, h5]
  rfl
theorem runs_each {l : List Dat} {i : Nat} (h : i < (runsL key l).length) : ((runsL key l)[i]).length = runN key (restR key l i) := by
  obtain ⟨_, h2, _⟩ := restR_next key h
  rw [h2, List.length_take, Nat.min_eq_left (runN_le key _)]
theorem restR_end {l : List Dat} {i : Nat} (h : (runsL key l).length ≤ i) : restR key l i = [] := by
  have h1 := runs_drop key i l
  rw [List.drop_of_length_le h] at h1
  by_cases hn : restR key l i = []
  · exact hn
  · rw [runsL_step key hn] at h1; cases h1
theorem flat_le (l : List Dat) (i : Nat) : ((runsL key l).take i).flatten.length ≤ l.length := by
  conv => rhs; rw [← runsL_join key _ l (Nat.le_refl _), ← List.take_append_drop i (runsL key l), List.flatten_append, List.length_append]
  omega
theorem rest_len (l : List Dat) (i : Nat) : (restR key l i).length = l.length - ((runsL key l).take i).flatten.length := by unfold restR; rw [List.length_drop]
end
/-- all places -/
def allN (N : Nat) : List (Fin N) := List.finRange N
theorem allN_take {N i : Nat} (h : i < N) : (allN N).take (i + 1) = (allN N).take i ++ [⟨i, h⟩] := by
  rw [List.take_succ_eq_append_getElem (by unfold allN; simpa using h)]
  unfold allN
  simp
theorem allN_len (N : Nat) : (allN N).length = N := by unfold allN; simp
theorem allN_pre {N : Nat} {pre : List (Fin N)} {x : Fin N} (h : pre ++ [x] <+: allN N) : pre.length = x.val ∧ pre = (allN N).take x.val := by
  obtain ⟨r, hr⟩ := h
  have hl : pre.length < N := by
    have := congrArg List.length hr
    rw [allN_len] at this
    simp at this
    omega
  have h1 : (allN N)[pre.length]? = some x := by
    rw [← hr, List.append_assoc, List.getElem?_append_right (Nat.le_refl _), Nat.sub_self]; rfl
  have h2 : (allN N)[pre.length]? = some ⟨pre.length, hl⟩ := by
    rw [List.getElem?_eq_getElem (by rw [allN_len]; exact hl)]
    unfold allN
    simp
  rw [h2] at h1
  have h3 : x = ⟨pre.length, hl⟩ := (Option.some.inj h1).symm
  have h4 : pre.length = x.val := by rw [h3]
  refine ⟨h4, ?_⟩
  rw [← h4, ← hr, List.append_assoc, List.take_left]

theorem eqTri (x y : Dat) (w : World) : (binOp .eql 101 (triV x) (triV y)).run Try.prog w = .ok (.bool (decide (triD x = triD y))) w := by
  have u2 := Try.underlying2
  have a2 := Try.isAgg2
  have aV := Try.isAgg41
  have hS : Try.prog.underlying 101 = some (.struct (Try.prog.fieldsOf 101)) := by kernel_rfl
  have hp : Try.prog.stoodInHeld 101 = false := by kernel_rfl
  have hV := fun w => eqInV9 x.k x.m x.s y.k y.m y.s w
  have hd : decide (triD x = triD y) = ((x.e == y.e) && ((x.a == y.a) && ((x.k == y.k) && ((x.m == y.m) && (x.s.toList == y.s.toList))))) := by
    rw [Bool.eq_iff_iff]
    simp only [decide_eq_true_eq, Bool.and_eq_true, beq_iff_eq, triD, Prod.mk.injEq]
    constructor
    · rintro ⟨h1, h2, h3, h4, h5⟩
      exact ⟨h1, h2, h3, h4, by rw [h5]⟩
    · rintro ⟨h1, h2, h3, h4, h5⟩
      refine ⟨h1, h2, h3, h4, ?_⟩
      rw [ByteArray.toList_eq, ByteArray.toList_eq] at h5
      cases hx : x.s with
      | mk l =>
        cases hy : y.s with
        | mk l' =>
          rw [hx, hy] at h5
          cases l
          cases l'
          simpa using h5
  unfold triV
  rw [run_eql_struct, hd, show (10000 : Nat) = 9999 + 1 from rfl, run_equalIn_agg w 9999 101 _ _ hS hp]
  simp only [Program.fieldsOf, Try.underlying101]
  obtain ⟨b1, h1⟩ : ∃ b, (x.e == y.e) = b := ⟨_, rfl⟩
  obtain ⟨b2, h2⟩ : ∃ b, (x.a == y.a) = b := ⟨_, rfl⟩
  obtain ⟨b3, h3⟩ : ∃ b, ((x.k == y.k) && ((x.m == y.m) && (x.s.toList == y.s.toList))) = b := ⟨_, rfl⟩
  rw [h3] at hV
  rw [h1, h2, h3]
  clear hd h3
  cases b1
  · go_simp
  cases b2
  · go_simp
  cases b3
  · go_simp
  · go_simp
end Go.Proofs.Ytoidkhojkekjeaa

/-
  CONTRACTS: the iterators of runs, at triples and at transactions.
-/
namespace Go.Proofs.Ytoidkhojkekjeaa
open Go.RowKit Go.Shelf
attribute [local go_sem] Oper.semAt_some

/-- the data lie, and the key's box -/
def KpR (B : Nat) (A : Option Addr) (l : List Dat) (Bk : Nat) (t : TypeId) (fv : Value) (X Y : World) : Prop := (SlD X B A l → SlD Y B A l) ∧ (Boxed X Bk t fv → Boxed Y Bk t fv) ∧ X.heap.size ≤ Y.heap.size
theorem KpR.trans {B : Nat} {A : Option Addr} {l : List Dat} {Bk : Nat} {t : TypeId} {fv : Value} {X Y Z : World} (h : KpR B A l Bk t fv X Y) (k : KpR B A l Bk t fv Y Z) : KpR B A l Bk t fv X Z := ⟨fun x => k.1 (h.1 x), fun x => k.2.1 (h.2.1 x), Nat.le_trans h.2.2 k.2.2⟩
theorem kpR_below {B : Nat} {A : Option Addr} {l : List Dat} {Bk : Nat} {t : TypeId} {fv : Value} {X Y : World} (hb : Below X.heap.size X Y) (hB : B ≤ X.heap.size) : KpR B A l Bk t fv X Y := ⟨fun h => h.next hb hB, fun h => (hb.block Bk h.lt).trans h, hb.size⟩
/-- how long a slice is -/
def lenV : Value → Nat
  | .slice _ n _ => n
  | _ => 0
/-- what stands while a stretch is measured: the datoms, the key's box -/
def RunS (w0 : World) (B : Nat) (A : Option Addr) (l : List Dat) (Bk : Nat) (t : TypeId) (fv : Value) (W : World) : Prop := SlD W B A l ∧ Boxed W Bk t fv ∧ B ≤ w0.heap.size ∧ Bk < w0.heap.size ∧ Below w0.heap.size w0 W
theorem RunS.next {w0 W W' : World} {B : Nat} {A : Option Addr} {l : List Dat} {Bk : Nat} {t : TypeId} {fv : Value} (h : RunS w0 B A l Bk t fv W) (hb : Below W.heap.size W W') : RunS w0 B A l Bk t fv W' := by
  obtain ⟨h1, h2, h3, h4, h5⟩ := h
  have := h5.size
  exact ⟨h1.next hb (by omega), (hb.block Bk (by omega)).trans h2, h3, h4, h5.trans (hb.mono h5.size)⟩
theorem RunS.far {w0 W W' : World} {B : Nat} {A : Option Addr} {l : List Dat} {Bk : Nat} {t : TypeId} {fv : Value} (h : RunS w0 B A l Bk t fv W) (hb : Below w0.heap.size W W') : RunS w0 B A l Bk t fv W' := by
  obtain ⟨h1, h2, h3, h4, h5⟩ := h
  exact ⟨h1.next hb h3, (hb.block Bk h4).trans h2, h3, h4, h5.trans hb⟩
/-- a key in its box -/
def KeyAt (W : World) (bk : Nat) (x : Dat) : Prop := W.heap[bk]? = some (.cells #[.int .i64 x.e, .int .i64 x.a, .int .i64 x.k, .int .i64 x.m, .string x.s] 101 (0, 0))
theorem KeyAt.cell {W : World} {bk : Nat} {x : Dat} (h : KeyAt W bk x) (j : Nat) : W.cell? ⟨bk, j, none⟩ = (#[Value.int .i64 x.e, .int .i64 x.a, .int .i64 x.k, .int .i64 x.m, .string x.s])[j]? := by unfold KeyAt at h; simp [World.cell?, h]
theorem KeyAt.lt {W : World} {bk : Nat} {x : Dat} (h : KeyAt W bk x) : bk < W.heap.size := (Array.getElem?_eq_some_iff.1 h).1
theorem KeyAt.next {W W' : World} {bk : Nat} {x : Dat} (h : KeyAt W bk x) (hb : Below W.heap.size W W') : KeyAt W' bk x := (hb.block bk h.lt).trans h
theorem RunS.drew {w0 W : World} {B : Nat} {A : Option Addr} {l : List Dat} {Bk : Nat} {t : TypeId} {fv : Value} (h : RunS w0 B A l Bk t fv W) : RunS w0 B A l Bk t fv W.drew := h.next (below_ind (Below.refl _ W) 1)

/-- what the iterator hands on: a stretch's key, and where it stands -/
def headD (r : List Dat) : Dat := r.headD ⟨0, 0, 0, 0, ⟨#[]⟩, 0, false, 0, 0⟩
theorem headD_take {R : List Dat} {n : Nat} (h : 0 < R.length) (hn : 1 ≤ n) : headD (R.take n) = R[0] := by
  cases R with
  | nil => simp at h
  | cons x r =>
    obtain ⟨k, rfl⟩ : ∃ k, n = k + 1 := ⟨n - 1, by omega⟩
    rfl
def encI (l : List Dat) (A : Option Addr) (c : Nat) (x : Fin (runsL (fun d : Dat => d.t) l).length) : Array Value :=
  #[.int .i64 (headD (runsL (fun d : Dat => d.t) l)[x.val]).t, .slice (stR A c ((runsL (fun d : Dat => d.t) l).take x.val)).1 (runsL (fun d : Dat => d.t) l)[x.val].length (stR A c ((runsL (fun d : Dat => d.t) l).take x.val)).2]
def encT (l : List Dat) (A : Option Addr) (c : Nat) (x : Fin (runsL triD l).length) : Array Value :=
  #[triV (headD (runsL triD l)[x.val]), .slice (stR A c ((runsL triD l).take x.val)).1 (runsL triD l)[x.val].length (stR A c ((runsL triD l).take x.val)).2]

end Go.Proofs.Ytoidkhojkekjeaa

/-
  CONTRACT: the iterator of runs, at triples.
-/
namespace Go.Proofs.Ytoidkhojkekjeaa
open Go.RowKit Go.Shelf
attribute [local go_sem] Oper.semAt_some

def set5 (W : World) (bk : Nat) (x : Dat) : World := ((((W.setCell ⟨bk, 0, none⟩ (.int .i64 x.e)).setCell ⟨bk, 1, none⟩ (.int .i64 x.a)).setCell ⟨bk, 2, none⟩ (.int .i64 x.k)).setCell ⟨bk, 3, none⟩ (.int .i64 x.m)).setCell ⟨bk, 4, none⟩ (.string x.s)
theorem set5_below {W : World} {B bk : Nat} (h : B ≤ bk) (x : Dat) : Below B W (set5 W bk x) :=
  ((((((Below.refl B W).setCell (p := ⟨bk, 0, none⟩) h _).setCell (p := ⟨bk, 1, none⟩) h _).setCell (p := ⟨bk, 2, none⟩) h _).setCell (p := ⟨bk, 3, none⟩) h _).setCell (p := ⟨bk, 4, none⟩) h _)
/-- a new key box, ahead of the store -/
def ZBox (W : World) (bk : Nat) : Prop := W.heap[bk]? = some (.cells #[.int .i64 0, .int .i64 0, .int .i64 0, .int .i64 0, .string ⟨#[]⟩] 101 (0, 0))
theorem ZBox.cell {W : World} {bk : Nat} (h : ZBox W bk) (j : Nat) : W.cell? ⟨bk, j, none⟩ = (#[Value.int .i64 0, .int .i64 0, .int .i64 0, .int .i64 0, .string ⟨#[]⟩])[j]? := by unfold ZBox at h; simp [World.cell?, h]
theorem ZBox.frozen {W : World} {bk : Nat} (h : ZBox W bk) (j : Nat) : W.frozen? ⟨bk, j, none⟩ = false := by unfold ZBox at h; simp [World.frozen?, h]
theorem key_set {W : World} {bk : Nat} (x : Dat) (h : ZBox W bk) : KeyAt (set5 W bk x) bk x := by
  unfold KeyAt set5
  unfold ZBox at h
  exact (heap_setCell_same _ _ _ _ _ _ (heap_setCell_same _ _ _ _ _ _ (heap_setCell_same _ _ _ _ _ _ (heap_setCell_same _ _ _ _ _ _ (heap_setCell_same _ _ _ _ _ _ h))))).trans (by simp)
theorem ZBox.lt {W : World} {bk : Nat} (h : ZBox W bk) : bk < W.heap.size := (Array.getElem?_eq_some_iff.1 h).1
theorem ZBox.next {W W' : World} {bk : Nat} (h : ZBox W bk) (hb : Below W.heap.size W W') : ZBox W' bk := (hb.block bk h.lt).trans h
theorem two_ways {e : Ending} {a b c : Prop} (h : (e = .returned (.bool true) ∧ a ∧ b) ∨ (e = .returned (.bool false) ∧ c)) : ∃ bb : Bool, e = .returned (.bool bb) ∧ ((bb = true ∧ a ∧ b) ∨ (bb = false ∧ c)) := by
  rcases h with ⟨rfl, h1, h2⟩ | ⟨rfl, h1⟩
  · exact ⟨true, rfl, .inl ⟨rfl, h1, h2⟩⟩
  · exact ⟨false, rfl, .inr ⟨rfl, h1⟩⟩
/-- what stands while a stretch is measured, its key in a box -/
def RunK (w0 : World) (B : Nat) (A : Option Addr) (l : List Dat) (Bk : Nat) (t : TypeId) (fv : Value) (bk : Nat) (x : Dat) (W : World) : Prop := RunS w0 B A l Bk t fv W ∧ KeyAt W bk x
theorem RunK.next {w0 W W' : World} {B : Nat} {A : Option Addr} {l : List Dat} {Bk : Nat} {t : TypeId} {fv : Value} {bk : Nat} {x : Dat} (h : RunK w0 B A l Bk t fv bk x W) (hb : Below W.heap.size W W') : RunK w0 B A l Bk t fv bk x W' := ⟨h.1.next hb, h.2.next hb⟩
theorem RunK.drew {w0 W : World} {B : Nat} {A : Option Addr} {l : List Dat} {Bk : Nat} {t : TypeId} {fv : Value} {bk : Nat} {x : Dat} (h : RunK w0 B A l Bk t fv bk x W) : RunK w0 B A l Bk t fv bk x W.drew := h.next (below_ind (Below.refl _ W) 1)
theorem callV2 {P : Program} {ops : Array Oper} {Q : Exit → Act → World → Prop} {md : Region.Mode} {S : World → Prop} {fuel : Nat} {listed : Array Bool} {a : Act} {w : World} (i j : Nat) {oi oj : Oper} (hi : ops[i]? = some oi) (hj : ops[j]? = some oj) (hr : Region.ready md ops listed = [i, j]) (hwi : Region.wanted oi (yielded ops a.tmps) = true) (hwj : Region.wanted oj (yielded ops a.tmps) = true)
    (h1 : ∀ K' : Act → World → Prop, Shut (∀ a w, S w → (S w → wpAnyH P md ops Q S fuel (listed.setIfInBounds i true) a w) → K' a w) → Oper.wp P oi a w K' Q)
    (h2 : ∀ K' : Act → World → Prop, Shut (∀ a w, S w → (S w → wpAnyH P md ops Q S fuel (listed.setIfInBounds j true) a w) → K' a w) → Oper.wp P oj a w K' Q) : wpAnyH P md ops Q S (fuel + 1) listed a w :=
  wpAnyH_ready hr (by simp) (AllReadyH.cons hi (fun K' hK => by rw [if_pos hwi]; exact h1 K' hK) (AllReadyH.cons hj (fun K' hK => by rw [if_pos hwj]; exact h2 K' hK) AllReadyH.nil))

end Go.Proofs.Ytoidkhojkekjeaa
