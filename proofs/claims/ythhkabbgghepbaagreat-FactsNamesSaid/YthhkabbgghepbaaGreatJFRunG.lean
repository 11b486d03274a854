/-
  FACTS on stretches of a slice: where each stands; triples compared.
-/
import Derived.Test.YthhkabbgghepbaaGreatJFRunL
import Derived.Test.YthhkabbgghepbaaGreatJDCmp
namespace Go.Proofs.YthhkabbgghepbaaGreat
open Go.RowKit Go.Shelf

/-- where the rest stands behind some stretches, and its capacity -/
def stR : Option Addr → Nat → List (List Dat) → Option Addr × Nat
  | A, c, [] => (A, c)
  | A, c, r :: q => stR (cutD A c r.length) (c - r.length) q
theorem stR_snoc (r : List Dat) : ∀ (pre : List (List Dat)) (A : Option Addr) (c : Nat), stR A c (pre ++ [r]) = (cutD (stR A c pre).1 (stR A c pre).2 r.length, (stR A c pre).2 - r.length)
  | [], _, _ => rfl
  | _ :: pre, _, _ => stR_snoc r pre _ _
theorem stR_cap : ∀ (pre : List (List Dat)) (A : Option Addr) (c : Nat), (stR A c pre).2 = c - pre.flatten.length
  | [], A, c => by simp [stR]
  | q :: pre, A, c => by
    show (stR (cutD A c q.length) (c - q.length) pre).2 = _
    rw [stR_cap pre, List.flatten_cons, List.length_append]; omega
theorem stR_sl {W : World} {B : Nat} : ∀ (pre : List (List Dat)) {A : Option Addr} {c : Nat} {l : List Dat}, SlD W B A l → l.length ≤ c → pre.flatten.length ≤ l.length → SlD W B (stR A c pre).1 (l.drop pre.flatten.length)
  | [], _, _, _, h, _, _ => by simpa [stR] using h
  | q :: pre, A, c, l, h, hlc, hp => by
    rw [List.flatten_cons, List.length_append] at hp
    have := stR_sl pre (c := c - q.length) (h.drop q.length hlc) (by rw [List.length_drop]; omega) (by rw [List.length_drop]; omega)
    rw [List.drop_drop] at this
    rw [List.flatten_cons, List.length_append]
    exact this
section
variable {κ : Type} [DecidableEq κ] (key : Dat → κ)
/-- what is left behind i stretches -/
def restR (l : List Dat) (i : Nat) : List Dat := l.drop ((runsL key l).take i).flatten.length
theorem runs_drop : ∀ (i : Nat) (l : List Dat), runsL key (restR key l i) = (runsL key l).drop i
  | 0, l => by unfold restR; simp
  | i + 1, l => by
    by_cases hl : l = []
    · subst hl; unfold restR; rw [runsL_nil]; simp [runsL_nil]
    · have h1 := runs_drop i (l.drop (runN key l))
      have hle := runN_le key l
      unfold restR at h1 ⊢
      rw [runsL_step key hl, List.take_succ_cons, List.flatten_cons, List.length_append, List.length_take, Nat.min_eq_left hle, List.drop_succ_cons, ← List.drop_drop]
      exact h1
theorem restR_next {l : List Dat} {i : Nat} (h : i < (runsL key l).length) : restR key l i ≠ [] ∧ (runsL key l)[i] = (restR key l i).take (runN key (restR key l i)) ∧ restR key l (i + 1) = (restR key l i).drop (runN key (restR key l i)) := by
  have h1 := runs_drop key i l
  have h2 : restR key l i ≠ [] := by
    intro e
    rw [e, runsL_nil] at h1
    have := congrArg List.length h1
    rw [List.length_drop] at this
    simp at this
    omega
  rw [runsL_step key h2, List.drop_eq_getElem_cons h] at h1
  injection h1 with h3 h4
  have hle := runN_le key (restR key l i)
  refine ⟨h2, h3.symm, ?_⟩
  have h5 : ((runsL key l)[i]).length = runN key (restR key l i) := by rw [← h3, List.length_take, Nat.min_eq_left hle]
  show l.drop ((runsL key l).take (i + 1)).flatten.length = _
  rw [List.take_succ_eq_append_getElem h, List.flatten_append, List.length_append, ← List.drop_drop]
  simp only [List.flatten_cons, List.flatten_nil, List.append_nil, h5]
  rfl
theorem runs_each {l : List Dat} {i : Nat} (h : i < (runsL key l).length) : ((runsL key l)[i]).length = runN key (restR key l i) := by
  obtain ⟨_, h2, _⟩ := restR_next key h
  rw [h2, List.length_take, Nat.min_eq_left (runN_le key _)]
theorem restR_end {l : List Dat} {i : Nat} (h : (runsL key l).length ≤ i) : restR key l i = [] := by
  have h1 := runs_drop key i l
  rw [List.drop_of_length_le h] at h1
  by_cases hn : restR key l i = []
  · exact hn
  · rw [runsL_step key hn] at h1; cases h1
theorem flat_le (l : List Dat) (i : Nat) : ((runsL key l).take i).flatten.length ≤ l.length := by
  conv => rhs; rw [← runsL_join key _ l (Nat.le_refl _), ← List.take_append_drop i (runsL key l), List.flatten_append, List.length_append]
  omega
theorem rest_len (l : List Dat) (i : Nat) : (restR key l i).length = l.length - ((runsL key l).take i).flatten.length := by unfold restR; rw [List.length_drop]
end
/-- all places -/
def allN (N : Nat) : List (Fin N) := List.finRange N
theorem allN_take {N i : Nat} (h : i < N) : (allN N).take (i + 1) = (allN N).take i ++ [⟨i, h⟩] := by
  rw [List.take_succ_eq_append_getElem (by unfold allN; simpa using h)]
  unfold allN
  simp
theorem allN_len (N : Nat) : (allN N).length = N := by unfold allN; simp
theorem allN_pre {N : Nat} {pre : List (Fin N)} {x : Fin N} (h : pre ++ [x] <+: allN N) : pre.length = x.val ∧ pre = (allN N).take x.val := by
  obtain ⟨r, hr⟩ := h
  have hl : pre.length < N := by
    have := congrArg List.length hr
    rw [allN_len] at this
    simp at this
    omega
  have h1 : (allN N)[pre.length]? = some x := by
    rw [← hr, List.append_assoc, List.getElem?_append_right (Nat.le_refl _), Nat.sub_self]; rfl
  have h2 : (allN N)[pre.length]? = some ⟨pre.length, hl⟩ := by
    rw [List.getElem?_eq_getElem (by rw [allN_len]; exact hl)]
    unfold allN
    simp
  rw [h2] at h1
  have h3 : x = ⟨pre.length, hl⟩ := (Option.some.inj h1).symm
  have h4 : pre.length = x.val := by rw [h3]
  refine ⟨h4, ?_⟩
  rw [← h4, ← hr, List.append_assoc, List.take_left]

theorem eqTri (x y : Dat) (w : World) : (binOp .eql 71 (triV x) (triV y)).run Tryz.prog w = .ok (.bool (decide (triD x = triD y))) w := by
  have u2 := Tryz.underlying2
  have a2 := Tryz.isAgg2
  have aV := Tryz.isAgg43
  have hS : Tryz.prog.underlying 71 = some (.struct (Tryz.prog.fieldsOf 71)) := by kernel_rfl
  have hp : Tryz.prog.stoodInHeld 71 = false := by kernel_rfl
  have hV := fun w => eqInV9 x.k x.m x.s y.k y.m y.s w
  have hd : decide (triD x = triD y) = ((x.e == y.e) && ((x.a == y.a) && ((x.k == y.k) && ((x.m == y.m) && (x.s.toList == y.s.toList))))) := by
    rw [Bool.eq_iff_iff]
    simp only [decide_eq_true_eq, Bool.and_eq_true, beq_iff_eq, triD, Prod.mk.injEq]
    constructor
    · rintro ⟨h1, h2, h3, h4, h5⟩
      exact ⟨h1, h2, h3, h4, by rw [h5]⟩
    · rintro ⟨h1, h2, h3, h4, h5⟩
      refine ⟨h1, h2, h3, h4, ?_⟩
      rw [ByteArray.toList_eq, ByteArray.toList_eq] at h5
      cases hx : x.s with
      | mk l =>
        cases hy : y.s with
        | mk l' =>
          rw [hx, hy] at h5
          cases l
          cases l'
          simpa using h5
  unfold triV
  rw [run_eql_struct, hd, show (10000 : Nat) = 9999 + 1 from rfl, run_equalIn_agg w 9999 71 _ _ hS hp]
  simp only [Program.fieldsOf, Tryz.underlying71]
  obtain ⟨b1, h1⟩ : ∃ b, (x.e == y.e) = b := ⟨_, rfl⟩
  obtain ⟨b2, h2⟩ : ∃ b, (x.a == y.a) = b := ⟨_, rfl⟩
  obtain ⟨b3, h3⟩ : ∃ b, ((x.k == y.k) && ((x.m == y.m) && (x.s.toList == y.s.toList))) = b := ⟨_, rfl⟩
  rw [h3] at hV
  rw [h1, h2, h3]
  clear hd h3
  cases b1
  · go_simp
  cases b2
  · go_simp
  cases b3
  · go_simp
  · go_simp
end Go.Proofs.YthhkabbgghepbaaGreat
